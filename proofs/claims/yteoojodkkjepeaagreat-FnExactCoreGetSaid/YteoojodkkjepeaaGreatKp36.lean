/- QDown, QPtrApp, QPush, QPop, QOpen. -/
import Derived.Test.YteoojodkkjepeaaGreatKp35
import Derived.Test.YteoojodkkjepeaaGreatKp11
import Derived.Test.YteoojodkkjepeaaGreatKp22
import Derived.Test.YteoojodkkjepeaaGreatKp31
set_option maxRecDepth 100000
set_option maxHeartbeats 8000000
set_option linter.unusedVariables false
namespace Go.Proofs.YteoojodkkjepeaaGreat.qdn
open ChangeShapes WideShapes ChangeAt RowKit fl qit qst
structure Rd (W0:World)(hb:Nat)(Q:qit.Qx)(g cap n:Nat)(L:List flM.Ms)(w:World)(k:Nat)(M:List flM.Ms)(wr:World):Prop where
 kn:k<n ∨ k=0
 len:M.length=L.length
 perm:M.Perm L
 dn:hp.DnI less M k n
 rest:∀ q,n <= q->M[q]?=L[q]?
 st:SG W0 hb Q g cap M wr
 kp:Kp g w wr
theorem Rd.on {W0:World}{Q:qit.Qx}{hb g cap n k:Nat}{L M:List flM.Ms}{w wr w1:World}(h:Rd W0 hb Q g cap n L w k M wr)(hb1:Below wr.heap.size wr w1):Rd W0 hb Q g cap n L w k M w1:=⟨h.kn,h.len,h.perm,h.dn,h.rest,h.st.on hb1,h.kp.trans (Kp.of hb1)⟩
theorem Rd.swap {W0:World}{Q:qit.Qx}{hb g cap n k j:Nat}{L M:List flM.Ms}{w wr:World}{A J:flM.Ms}(h:Rd W0 hb Q g cap n L w k M wr)(hA:M[k]?=some A)(hJ:M[j]?=some J)(hkn:k<n)(hjn:j<n)(hd:hp.DnI less (hp.sw M k j) j n):Rd W0 hb Q g cap n L w j (hp.sw M k j) (qsw.S2 wr.drew g k j A J):=by
 obtain⟨h1,h2⟩:=h.st.swap hA hJ
 exact⟨.inl hjn,hp.sw_len.trans h.len,(hp.sw_perm hA hJ).trans h.perm,hd,fun q hq=>by rw [hp.sw_else hA hJ (by omega) (by omega)];exact h.rest q hq,h1,h.kp.trans h2⟩
def Fin (W0:World)(hb:Nat)(Q:qit.Qx)(g cap n:Nat)(L:List flM.Ms)(w w':World):Prop:=∃ M:List flM.Ms,M.Perm L/\hp.Heap less M n/\(∀ q,n <= q->M[q]?=L[q]?)/\SG W0 hb Q g cap M w'/\Kp g w w'
theorem Rd.fin {W0:World}{Q:qit.Qx}{hb g cap n k:Nat}{L M:List flM.Ms}{w wr:World}(h:Rd W0 hb Q g cap n L w k M wr)(hh:hp.Heap less M n):Fin W0 hb Q g cap n L w wr:=⟨M,h.perm,hh,h.rest,h.st,h.kp⟩
theorem ask {W0:World}{Q:qit.Qx}{hb g cap n k:Nat}{L M:List flM.Ms}{w wr:World}(h:Rd W0 hb Q g cap n L w k M wr){i j:Nat}{A B:flM.Ms}(hi:M[i]?=some A)(hj:M[j]?=some B) :
  Calls Tryz.prog 235 #[.slice (some ⟨g,0,none⟩) M.length cap,.int .i64 i,.int .i64 j] wr fun r w'=>r=.returned (.bool (less A B))/\Below wr.heap.size wr w' :=
 qit.less_run g M.length cap i j A B wr (List.getElem?_eq_some_iff.1 hi).1 (List.getElem?_eq_some_iff.1 hj).1 (h.st.row.at hi) (h.st.row.at hj) (h.st.fit hi) (h.st.fit hj)
theorem turn {W0:World}{Q:qit.Qx}{hb g cap n k:Nat}{L M:List flM.Ms}{w wr:World}(h:Rd W0 hb Q g cap n L w k M wr){i j:Nat}{A B:flM.Ms}(hi:M[i]?=some A)(hj:M[j]?=some B) :
  Calls Tryz.prog 238 #[.slice (some ⟨g,0,none⟩) M.length cap,.int .i64 i,.int .i64 j] wr fun r w'=>r=.returned (.tuple #[])/\w'=qsw.S2 wr.drew g i j A B:=by
 obtain⟨cur,c1,c2,c3,_⟩:=h.st.row
 exact qsw.swap_run g M.length cap i j cur A B wr (List.getElem?_eq_some_iff.1 hi).1 (List.getElem?_eq_some_iff.1 hj).1 (by omega) c1 (h.st.row.at hi) (h.st.row.at hj)
theorem getM {M:List flM.Ms}{i:Nat}(h:i<M.length):∃ A,M[i]?=some A:=⟨_,List.getElem?_eq_getElem h⟩
theorem down_run (W0:World)(Q:qit.Qx)(hb g cap i n:Nat)(L:List flM.Ms)(w:World)(hS:SG W0 hb Q g cap L w)(hin:i<n ∨ i=0)(hnl:n <= L.length)(hl:L.length <= 1000)(hD:hp.DnI less L i n) :
  Calls Tryz.prog 208 #[.iface 168 (.pointer (some ⟨hb,0,none⟩)),.int .i64 i,.int .i64 n] w fun e w'=>(∃ b:Bool,e=.returned (.bool b))/\Fin W0 hb Q g cap n L w w':=by
 have HR0:Hid (Rd W0 hb Q g cap n L w i L w):=⟨hin,rfl,List.Perm.refl _,hD,fun _ _=>rfl,hS,Kp.refl _ _⟩
 have hn100:n <= 1000:=by omega
 have HNL:Hid (n <= L.length):=hnl
 clear hS hD hnl hl
 go_enter Tryz.func208,Tryz.ntmps208
 go_wp2
 go_loopw [7,8,9,10] (fun x _ _ _ wr=>∃ (k:Nat) (M:List flM.Ms),x=.int .i64 k/\k <= 1000/\Hid (Rd W0 hb Q g cap n L w k M wr)) (fun x _ _ _ _=>n - (intOf x).toNat)
 case atStart=>exact⟨i,L,rfl,by omega,HR0⟩
 case round =>
  obtain⟨k,M,rfl,hk100,hrd⟩:=hrel
  by_cases h1:2*k+1<n
  case neg =>
   have hf:Hid (Fin W0 hb Q g cap n L w wr):=hrd.out.fin (hp.down_end hrd.out.dn (hp.none_child h1))
   have c1:(n:Int) <= 2*(k:Int)+1:=by omega
   clear h1
   go_wp2
   go_ret
   exact⟨⟨_,rfl⟩,hf.out⟩
  case pos =>
   have hML:Hid (n <= M.length):=by unfold Hid;rw [hrd.out.len];exact HNL.out
   obtain⟨A,gA⟩:=getM (M:=M) (i:=k) (by have:=hML.out;omega)
   have HA:Hid (M[k]?=some A):=gA
   obtain⟨J1,g1⟩:=getM (M:=M) (i:=2*k+1) (by have:=hML.out;omega)
   have H1:Hid (M[2*k+1]?=some J1):=g1
   clear gA g1
   have c1:¬ (n:Int) <= 2*(k:Int)+1:=by omega
   have c2:¬ 2*(k:Int)+1<0:=by omega
   have hbx:wr.cell? ⟨hb,0,none⟩=some (.slice (some ⟨g,0,none⟩) M.length cap):=bcell hrd.out.st.box rfl
   have hm:=meth_less hb _ wr hbx
   by_cases h2:2*k+2<n
   case pos =>
    obtain⟨J2,g2⟩:=getM (M:=M) (i:=2*k+2) (by have:=hML.out;omega)
    have H2:Hid (M[2*k+2]?=some J2):=g2
    clear g2
    have c3:2*(k:Int)+1+1<(n:Int):=by omega
    have hask:=ask hrd.out H2.out H1.out
    have e2:((2*k+2:Nat):Int)=2*(k:Int)+1+1:=by omega
    have e1:((2*k+1:Nat):Int)=2*(k:Int)+1:=by omega
    rw [e2,e1] at hask
    have HL2:Hid (less J2 J1=true->∀ c,0<c->c<n->hp.P c=k->hp.Le less M (2*k+2) c):=fun h=>hp.least_two ord H1.out H2.out h
    have HL1:Hid (less J2 J1=false->∀ c,0<c->c<n->hp.P c=k->hp.Le less M (2*k+1) c):=fun h=>hp.least_one ord H1.out (fun _ y hy=>by rw [H2.out] at hy;cases hy;exact h)
    obtain⟨b1,hb1⟩:∃ b,less J2 J1=b:=⟨_,rfl⟩
    rw [hb1] at hask HL1 HL2
    clear hb1
    go_wp2_with (go_at_call 235;fail)
    refine hask.mono ?_
    rintro e w1 ⟨rfl,hbe1⟩
    have HR1:Hid (Rd W0 hb Q g cap n L w k M w1):=hrd.out.on hbe1
    clear hask hm hbx hbe1 hrd
    cases b1 with
    | false =>
     have HLE:Hid (∀ c,0<c->c<n->hp.P c=k->hp.Le less M (2*k+1) c):=HL1.out rfl
     clear HL1 HL2 H2
     have eJ:((2*k+1:Nat):Int)=2*(k:Int)+1:=by omega
     have hbx1:w1.cell? ⟨hb,0,none⟩=some (.slice (some ⟨g,0,none⟩) M.length cap):=bcell HR1.out.st.box rfl
     have hm1:=meth_less hb _ w1 hbx1
     have hask1:=ask HR1.out H1.out HA.out
     rw [eJ] at hask1
     have HD2:Hid (less J1 A=true->hp.DnI less (hp.sw M k (2*k+1)) (2*k+1) n):=fun h=>hp.down_step ord HA.out H1.out (by omega) (by omega) (hp.P_one k) HR1.out.dn h HLE.out
     have HD3:Hid (less J1 A=false->hp.Heap less M n):=fun h=>hp.down_end HR1.out.dn (hp.least_end ord H1.out HA.out h HLE.out)
     obtain⟨b2,hb2⟩:∃ b,less J1 A=b:=⟨_,rfl⟩
     rw [hb2] at hask1 HD2 HD3
     clear hb2 HLE
     go_wp2_with (go_at_call 235;fail)
     refine hask1.mono ?_
     rintro e w2 ⟨rfl,hbe2⟩
     have HR2:Hid (Rd W0 hb Q g cap n L w k M w2):=HR1.out.on hbe2
     clear hask1 hm1 hbx1 hbe2
     cases b2 with
     | false =>
      have hf:Hid (Fin W0 hb Q g cap n L w w2):=HR2.out.fin (HD3.out rfl)
      clear HD2 HD3
      go_wp2
      go_ret
      exact⟨⟨_,rfl⟩,hf.out⟩
     | true =>
      have hbx2:w2.cell? ⟨hb,0,none⟩=some (.slice (some ⟨g,0,none⟩) M.length cap):=bcell HR2.out.st.box rfl
      have hm2:=meth_swap hb _ w2 hbx2
      have hsw:=turn HR2.out HA.out H1.out
      have HR3:Hid (Rd W0 hb Q g cap n L w (2*k+1) (hp.sw M k (2*k+1)) (qsw.S2 w2.drew g k (2*k+1) A J1)):=HR2.out.swap HA.out H1.out (by omega) (by omega) (HD2.out rfl)
      obtain⟨X,hX⟩:∃ X,qsw.S2 w2.drew g k (2*k+1) A J1=X:=⟨_,rfl⟩
      rw [hX] at hsw HR3
      rw [eJ] at hsw
      clear hX HD2 HD3
      go_wp2_with (go_at_call 238;fail)
      refine hsw.mono ?_
      rintro e w3 ⟨rfl,rfl⟩
      clear hsw hm2 hbx2
      go_wp2
      go_roundw
      case rel=>exact⟨2*k+1,hp.sw M k (2*k+1),by rw [eJ],by omega,HR3⟩
      case measure=>simp [intOf];omega
    | true =>
     have HLE:Hid (∀ c,0<c->c<n->hp.P c=k->hp.Le less M (2*k+2) c):=HL2.out rfl
     clear HL1 HL2 H1
     have eJ:((2*k+2:Nat):Int)=2*(k:Int)+1+1:=by omega
     have hbx1:w1.cell? ⟨hb,0,none⟩=some (.slice (some ⟨g,0,none⟩) M.length cap):=bcell HR1.out.st.box rfl
     have hm1:=meth_less hb _ w1 hbx1
     have hask1:=ask HR1.out H2.out HA.out
     rw [eJ] at hask1
     have HD2:Hid (less J2 A=true->hp.DnI less (hp.sw M k (2*k+2)) (2*k+2) n):=fun h=>hp.down_step ord HA.out H2.out (by omega) (by omega) (hp.P_two k) HR1.out.dn h HLE.out
     have HD3:Hid (less J2 A=false->hp.Heap less M n):=fun h=>hp.down_end HR1.out.dn (hp.least_end ord H2.out HA.out h HLE.out)
     obtain⟨b2,hb2⟩:∃ b,less J2 A=b:=⟨_,rfl⟩
     rw [hb2] at hask1 HD2 HD3
     clear hb2 HLE
     go_wp2_with (go_at_call 235;fail)
     refine hask1.mono ?_
     rintro e w2 ⟨rfl,hbe2⟩
     have HR2:Hid (Rd W0 hb Q g cap n L w k M w2):=HR1.out.on hbe2
     clear hask1 hm1 hbx1 hbe2
     cases b2 with
     | false =>
      have hf:Hid (Fin W0 hb Q g cap n L w w2):=HR2.out.fin (HD3.out rfl)
      clear HD2 HD3
      go_wp2
      go_ret
      exact⟨⟨_,rfl⟩,hf.out⟩
     | true =>
      have hbx2:w2.cell? ⟨hb,0,none⟩=some (.slice (some ⟨g,0,none⟩) M.length cap):=bcell HR2.out.st.box rfl
      have hm2:=meth_swap hb _ w2 hbx2
      have hsw:=turn HR2.out HA.out H2.out
      have HR3:Hid (Rd W0 hb Q g cap n L w (2*k+2) (hp.sw M k (2*k+2)) (qsw.S2 w2.drew g k (2*k+2) A J2)):=HR2.out.swap HA.out H2.out (by omega) (by omega) (HD2.out rfl)
      obtain⟨X,hX⟩:∃ X,qsw.S2 w2.drew g k (2*k+2) A J2=X:=⟨_,rfl⟩
      rw [hX] at hsw HR3
      rw [eJ] at hsw
      clear hX HD2 HD3
      go_wp2_with (go_at_call 238;fail)
      refine hsw.mono ?_
      rintro e w3 ⟨rfl,rfl⟩
      clear hsw hm2 hbx2
      go_wp2
      go_roundw
      case rel=>exact⟨2*k+2,hp.sw M k (2*k+2),by rw [eJ],by omega,HR3⟩
      case measure=>simp [intOf];omega
   case neg =>
    have c3:¬ 2*(k:Int)+1+1<(n:Int):=by omega
    have HLE:Hid (∀ c,0<c->c<n->hp.P c=k->hp.Le less M (2*k+1) c):=hp.least_one ord H1.out (fun h=>absurd h h2)
    clear hm hbx
    have eJ:((2*k+1:Nat):Int)=2*(k:Int)+1:=by omega
    have hbx1:wr.cell? ⟨hb,0,none⟩=some (.slice (some ⟨g,0,none⟩) M.length cap):=bcell hrd.out.st.box rfl
    have hm1:=meth_less hb _ wr hbx1
    have hask1:=ask hrd.out H1.out HA.out
    rw [eJ] at hask1
    have HD2:Hid (less J1 A=true->hp.DnI less (hp.sw M k (2*k+1)) (2*k+1) n):=fun h=>hp.down_step ord HA.out H1.out (by omega) (by omega) (hp.P_one k) hrd.out.dn h HLE.out
    have HD3:Hid (less J1 A=false->hp.Heap less M n):=fun h=>hp.down_end hrd.out.dn (hp.least_end ord H1.out HA.out h HLE.out)
    obtain⟨b2,hb2⟩:∃ b,less J1 A=b:=⟨_,rfl⟩
    rw [hb2] at hask1 HD2 HD3
    clear hb2 HLE
    go_wp2_with (go_at_call 235;fail)
    refine hask1.mono ?_
    rintro e w2 ⟨rfl,hbe2⟩
    have HR2:Hid (Rd W0 hb Q g cap n L w k M w2):=hrd.out.on hbe2
    clear hask1 hm1 hbx1 hbe2
    cases b2 with
    | false =>
     have hf:Hid (Fin W0 hb Q g cap n L w w2):=HR2.out.fin (HD3.out rfl)
     clear HD2 HD3
     go_wp2
     go_ret
     exact⟨⟨_,rfl⟩,hf.out⟩
    | true =>
     have hbx2:w2.cell? ⟨hb,0,none⟩=some (.slice (some ⟨g,0,none⟩) M.length cap):=bcell HR2.out.st.box rfl
     have hm2:=meth_swap hb _ w2 hbx2
     have hsw:=turn HR2.out HA.out H1.out
     have HR3:Hid (Rd W0 hb Q g cap n L w (2*k+1) (hp.sw M k (2*k+1)) (qsw.S2 w2.drew g k (2*k+1) A J1)):=HR2.out.swap HA.out H1.out (by omega) (by omega) (HD2.out rfl)
     obtain⟨X,hX⟩:∃ X,qsw.S2 w2.drew g k (2*k+1) A J1=X:=⟨_,rfl⟩
     rw [hX] at hsw HR3
     rw [eJ] at hsw
     clear hX HD2 HD3
     go_wp2_with (go_at_call 238;fail)
     refine hsw.mono ?_
     rintro e w3 ⟨rfl,rfl⟩
     clear hsw hm2 hbx2
     go_wp2
     go_roundw
     case rel=>exact⟨2*k+1,hp.sw M k (2*k+1),by rw [eJ],by omega,HR3⟩
     case measure=>simp [intOf];omega
end Go.Proofs.YteoojodkkjepeaaGreat.qdn
namespace Go.Proofs.YteoojodkkjepeaaGreat.qpap
open ChangeShapes WideShapes ChangeAt RowKit fl
structure G where
 h:Nat
 v1:Value
structure Pm where
 W0:World
 B:Nat
 hb:Nat
 TB:TypeId
 T:TypeId
 n:Nat
 v0:Value
 k:Nat
 xs:List Value
 ms:List Value
 r1:Value
 r2:Value
 r3:Value
structure J where
 jl:Nat
 jm:Nat
 jb:Nat
 ja:Nat
 js:Nat
def J.ok (x:J):Prop:=x.jl≠x.jm/\x.jl≠x.jb/\x.jl≠x.ja/\x.jl≠x.js/\x.jm≠x.jb/\x.jm≠x.ja/\x.jm≠x.js/\x.jb≠x.ja/\x.jb≠x.js/\x.ja≠x.js
section
variable {p:Pm} {x:J} {ws:G->List (Nat × Value)} {act:Act} {Q:Exit->Act->World->Prop} {o:Oper}
end
end Go.Proofs.YteoojodkkjepeaaGreat.qpap
namespace Go.Proofs.YteoojodkkjepeaaGreat.qpu
open ChangeShapes WideShapes ChangeAt RowKit fl qit qst
structure SN (W0:World)(hb:Nat)(Q:qit.Qx)(L:List flM.Ms)(w:World):Prop where
 bel:Below W0.heap.size W0 w
 hbB:W0.heap.size <= hb
 box:∃ v,w.heap[hb]?=some (.cells #[v,.string Q.nm,.int .i64 Q.nx,.slice Q.ha Q.hn Q.hc] 174 (0,0))/\w.ownsRow W0.heap.size 48 5 v L.length (L.flatMap flM.c)/\v.ownBlock≠some hb
 fits:∀ r∈L,Fits W0 W0.heap.size r
theorem take_eq {cur:Array Value}{L:List flM.Ms}(h:∀ (i:Nat) (r:flM.Ms),L[i]?=some r->∀ (j:Nat) (v:Value),(flM.c r)[j]?=some v->cur[i*5+j]?=some v)(hs:L.length*5 <= cur.size):cur.toList.take (L.length*5)=L.flatMap flM.c:=by
 apply List.ext_getElem?
 intro j
 by_cases hj:j<L.length*5
 ·rw [List.getElem?_take_of_lt hj]
  have hj2:j<(L.flatMap flM.c).length:=by rw [flat_len flM.c_len];exact hj
  obtain⟨u,hu⟩:∃ u,(L.flatMap flM.c)[j]?=some u:=⟨_,List.getElem?_eq_getElem hj2⟩
  obtain⟨i,e,r,k1,k2,k3⟩:=flat_get flM.c_len L j _ hu
  rw [hu]
  subst k3
  have:=h i e k1 r _ k2
  simpa using this
 ·rw [List.getElem?_eq_none (by rw [List.length_take];omega),List.getElem?_eq_none (by rw [flat_len flM.c_len];omega)]
theorem SN.of {W0:World}{Q:qit.Qx}{hb g cap:Nat}{L:List flM.Ms}{w:World}(h:SG W0 hb Q g cap L w):SN W0 hb Q L w:=by
 obtain⟨cur,h1,h2,h3,h4,h5⟩:=h.row
 refine⟨h.bel,h.hbB,⟨_,h.box,⟨flat_len flM.c_len L,.inr ⟨g,cap,cur,rfl,h.gB,h1,h3,h4,h2,take_eq h5 (by omega)⟩⟩,?_⟩,h.fits⟩
 intro e
 exact h.ne (Option.some.inj e)
theorem SN.sg {W0:World}{Q:qit.Qx}{hb:Nat}{L:List flM.Ms}{w:World}(h:SN W0 hb Q L w)(h0:L≠[]):∃ g cap,SG W0 hb Q g cap L w:=by
 obtain⟨v,hv,⟨_,⟨rfl,hn⟩ | ⟨g,cap,cur,rfl,h1,h2,h3,h4,h5,h6⟩⟩,hne⟩:=h.box
 ·exact absurd (List.eq_nil_of_length_eq_zero hn) h0
 ·refine⟨g,cap,h.bel,h.hbB,h1,fun e=>hne (by rw [e];rfl),hv,⟨cur,h2,h5,h3,h4,fun i r hr j v hv=>?_⟩,h.fits⟩
  have hf:=flat_at flM.c_len L i r hr j v hv
  rw [<- h6] at hf
  have hlt:=(List.getElem?_eq_some_iff.1 hf).1
  rw [List.length_take] at hlt
  rw [List.getElem?_take_of_lt (by omega)] at hf
  simpa using hf
def Kt (hb:Nat)(w w':World):Prop:=w.heap.size <= w'.heap.size/\∀ (k:Nat) (cur:Array Value) (U:TypeId),w.heap[k]?=some (.cells cur U (0,0))->U≠48->k≠hb->w'.heap[k]?=w.heap[k]?
theorem Kt.trans {hb:Nat}{a b c:World}(h1:Kt hb a b)(h2:Kt hb b c):Kt hb a c:=⟨Nat.le_trans h1.1 h2.1,fun k cur U hk hU hne=>by
 have e1:=h1.2 k cur U hk hU hne
 rw [h2.2 k cur U (e1.trans hk) hU hne,e1]⟩
theorem Kt.of {hb:Nat}{a b:World}(h:Below a.heap.size a b):Kt hb a b:=⟨h.size,fun k cur U hk _ _=>h.block k (Array.getElem?_eq_some_iff.1 hk).1⟩
theorem Kt.kp {hb g cap:Nat}{L:List flM.Ms}{a b:World}(h:Kp g a b)(hr:HR a g cap L):Kt hb a b:=⟨h.size,fun k cur U hk hU _=>h.block k (Array.getElem?_eq_some_iff.1 hk).1 (by
 rintro rfl
 obtain⟨cur',h1,_⟩:=hr
 rw [hk] at h1
 simp at h1
 exact hU h1.2)⟩
def ws (hb n:Nat)(v:Value)(r:flM.Ms)(g:qpap.G):List (Nat × Value) :=
 [(12,.pointer (some ⟨hb,0,none⟩)),(13,.pointer (some ⟨hb,0,none⟩)),(14,.pointer (some ⟨hb,0,none⟩)),(15,v),(16,.agg #[.int .i64 r.q,.string r.x,.string r.k,.string r.b,.bool r.a]),(17,.slice (some ⟨g.h,0,none⟩) 1 1),(18,g.v1),(19,.pointer (some ⟨hb,0,none⟩))]
end Go.Proofs.YteoojodkkjepeaaGreat.qpu
namespace Go.Proofs.YteoojodkkjepeaaGreat.qpo
open ChangeShapes WideShapes ChangeAt RowKit fl qit qst qpu
theorem len_run (a:Option Addr)(n cap:Nat)(w:World):Calls Tryz.prog 182 #[.slice a n cap] w fun e w'=>e=.returned (.int .i64 n)/\w=w':=by
 go_enter Tryz.func182,Tryz.ntmps182
 go_wp2
 go_ret
 exact⟨rfl,rfl⟩
structure Kq (hb g:Nat)(w w':World):Prop where
 os:w'.os=w.os
 tape:w'.tape=w.tape
 output:w'.output=w.output
 size:w.heap.size <= w'.heap.size
 block:∀ k,k<w.heap.size->k≠g->k≠hb->w'.heap[k]?=w.heap[k]?
theorem Kq.refl (hb g:Nat)(w:World):Kq hb g w w:=⟨rfl,rfl,rfl,Nat.le_refl _,fun _ _ _ _=>rfl⟩
theorem Kq.trans {hb g:Nat}{a b c:World}(h1:Kq hb g a b)(h2:Kq hb g b c):Kq hb g a c :=
 ⟨h2.os.trans h1.os,h2.tape.trans h1.tape,h2.output.trans h1.output,Nat.le_trans h1.size h2.size,fun k hk h3 h4=>(h2.block k (Nat.lt_of_lt_of_le hk h1.size) h3 h4).trans (h1.block k hk h3 h4)⟩
theorem Kq.of {hb g:Nat}{a b:World}(h:Kp g a b):Kq hb g a b:=⟨h.os,h.tape,h.output,h.size,fun k hk h1 _=>h.block k hk h1⟩
theorem pop_m (W0:World)(Q:qit.Qx)(hb g cap:Nat)(L:List flM.Ms)(r:flM.Ms)(w:World)(hS:SG W0 hb Q g cap (L++[r]) w)(hl:L.length <= 1000) :
  Calls Tryz.prog 236 #[.pointer (some ⟨hb,0,none⟩)] w fun e w'=>e=.returned (.iface 48 (.agg #[.int .i64 r.q,.string r.x,.string r.k,.string r.b,.bool r.a]))/\SG W0 hb Q g cap L w'/\Kq hb g w w':=by
 have hbx:w.cell? ⟨hb,0,none⟩=some (.slice (some ⟨g,0,none⟩) (L.length+1) cap):=by have:=bcell (j:=0) hS.box rfl;simpa using this
 have hat:=hS.row.at (i:=L.length) (r:=r) (by simp)
 have r0:=hat.c0
 have r1:=hat.c1
 have r2:=hat.c2
 have r3:=hat.c3
 have r4:=hat.c4
 have HS:Hid (SG W0 hb Q g cap (L++[r]) w):=hS
 have hblt:=(Array.getElem?_eq_some_iff.1 hS.box).1
 have hxb:=bold hS.box (.cells #[.int .i64 r.q,.string r.x,.string r.k,.string r.b,.bool r.a] 48)
 have hA:=bnew w #[.int .i64 r.q,.string r.x,.string r.k,.string r.b,.bool r.a] 48
 have hal:=fl.bl w (.cells #[.int .i64 r.q,.string r.x,.string r.k,.string r.b,.bool r.a] 48)
 obtain⟨X,hX⟩:∃ X,w.alloc (.cells #[.int .i64 r.q,.string r.x,.string r.k,.string r.b,.bool r.a] 48)=X:=⟨_,rfl⟩
 rw [hX] at hxb hA hal
 have x0:X.cell? ⟨hb,0,none⟩=some (.slice (some ⟨g,0,none⟩) (L.length+1) cap):=by have:=bcell (j:=0) hxb rfl;simpa using this
 have xf:X.frozen? ⟨hb,0,none⟩=false:=bfree hxb 0
 have hyA:=boff hA hb 0 (.slice (some ⟨g,0,none⟩) L.length cap) (by omega)
 have hyb:=bset hxb 0 (.slice (some ⟨g,0,none⟩) L.length cap)
 obtain⟨Y,hY⟩:∃ Y,X.setCell ⟨hb,0,none⟩ (.slice (some ⟨g,0,none⟩) L.length cap)=Y:=⟨_,rfl⟩
 rw [hY] at hyA hyb
 obtain⟨y0,y1,y2,y3,y4⟩:=fl.q5 hyA
 have hkq:Kq hb g w Y:=by
  refine⟨by rw [<- hY,<- hX];rfl,by rw [<- hY,<- hX];rfl,by rw [<- hY,<- hX];rfl,by rw [<- hY,<- hX];simp,fun k hk h1 h2=>?_⟩
  rw [<- hY,Below.heap_setCell _ _ _ k h2]
  exact hal.block k hk
 have hgB:=HS.out.gB
 have hgne:=HS.out.ne
 have hbB:=HS.out.hbB
 have hsz:=HS.out.bel.size
 have hsg:SG W0 hb Q g cap L Y:=by
  obtain⟨cur,h1,h2,h3,h4,h5⟩:=HS.out.row
  have hgl:=(Array.getElem?_eq_some_iff.1 h1).1
  refine⟨⟨hkq.os.trans HS.out.bel.os,hkq.tape.trans HS.out.bel.tape,hkq.output.trans HS.out.bel.output,Nat.le_trans hsz hkq.size,fun k hk=>(hkq.block k (by omega) (by omega) (by omega)).trans (HS.out.bel.block k hk)⟩,hbB,hgB,hgne,by simpa using hyb,⟨cur,?_,h2,by simp at h3;omega,h4,fun i q hq=>h5 i q (by rw [List.getElem?_append_left (List.getElem?_eq_some_iff.1 hq).1];exact hq)⟩,fun q hq=>HS.out.fits q (by simp [hq])⟩
  rw [<- hY,Below.heap_setCell _ _ _ g hgne]
  exact(hal.block g hgl).trans h1
 have HF:Hid (SG W0 hb Q g cap L Y/\Kq hb g w Y):=⟨hsg,hkq⟩
 have i1:(L.length:Int) <= (cap:Int):=by have:=HS.out.row;obtain⟨_,_,_,h3,_⟩:=this;simp at h3;omega
 clear hS hat hsg hkq hyA hyb hxb hA hal
 go_enter Tryz.func236,Tryz.ntmps236
 go_wp2
 go_ret
 exact⟨rfl,HF.out⟩
theorem pop_run (W0:World)(Q:qit.Qx)(hb g cap:Nat)(L:List flM.Ms)(r:flM.Ms)(w:World)(hS:SG W0 hb Q g cap L w)(h0:L[0]?=some r)(hl:L.length <= 1000)(hH:hp.Heap less L L.length) :
  Calls Tryz.prog 179 #[.iface 168 (.pointer (some ⟨hb,0,none⟩))] w fun e w'=>e=.returned (.iface 48 (.agg #[.int .i64 r.q,.string r.x,.string r.k,.string r.b,.bool r.a]))/\∃ M:List flM.Ms,(r :: M).Perm L/\hp.Heap less M M.length/\SG W0 hb Q g cap M w'/\Kq hb g w w':=by
 have hpos:=(List.getElem?_eq_some_iff.1 h0).1
 obtain⟨n,hn⟩:∃ n,L.length=n+1:=⟨L.length - 1,by omega⟩
 obtain⟨q,hq⟩:∃ q,L[n]?=some q:=⟨_,List.getElem?_eq_getElem (by omega)⟩
 have hbx:w.cell? ⟨hb,0,none⟩=some (.slice (some ⟨g,0,none⟩) L.length cap):=bcell hS.box rfl
 have hml:=meth_len hb _ w hbx
 have hms:=meth_swap hb _ w hbx
 obtain⟨cur,c1,c2,c3,_⟩:=hS.row
 have hsw:=qsw.swap_run g L.length cap 0 n cur r q w hpos (by omega) (by omega) c1 (hS.row.at h0) (hS.row.at hq)
 obtain⟨hs1,hk1⟩:=hS.swap h0 hq
 have hD:=hp.down_sw (m:=n) h0 hq (by rw [<- hn];exact hH)
 have hsl:(hp.sw L 0 n).length=n+1:=by rw [hp.sw_len,hn]
 have hlast:(hp.sw L 0 n)[n]?=some r:=hp.sw_last h0 hq
 have hperm:=hp.sw_perm h0 hq
 obtain⟨X,hX⟩:∃ X,qsw.S2 w.drew g 0 n r q=X:=⟨_,rfl⟩
 rw [hX] at hsw hs1 hk1
 have hdn:=qdn.down_run W0 Q hb g cap 0 n (hp.sw L 0 n) X hs1 (.inr rfl) (by omega) (by omega) hD
 have hmp:=fun W=>meth_pop hb W
 have HPM:Hid (∀ (M:List flM.Ms) (W:World),M.Perm (hp.sw L 0 n)->hp.Heap less M n->(∀ k,n <= k->M[k]?=(hp.sw L 0 n)[k]?)->SG W0 hb Q g cap M W->Kp g X W ->
   Calls Tryz.prog 236 #[.pointer (some ⟨hb,0,none⟩)] W fun e w'=>e=.returned (.iface 48 (.agg #[.int .i64 r.q,.string r.x,.string r.k,.string r.b,.bool r.a]))/\∃ M:List flM.Ms,(r :: M).Perm L/\hp.Heap less M M.length/\SG W0 hb Q g cap M w'/\Kq hb g w w'):=fun M W p1 p2 p3 p4 p5=>by
  have hlM:M.length=n+1:=by rw [p1.length_eq,hsl]
  have hMr:M[n]?=some r:=by rw [p3 n (Nat.le_refl _),hlast]
  have hsplit:M=M.take n++[r]:=by
   have h1:=List.take_append_getElem (l:=M) (i:=n) (by omega)
   have h2:M[n]'(by omega)=r:=(List.getElem?_eq_some_iff.1 hMr).2
   rw [h2,<- hlM,List.take_length] at h1
   exact h1.symm
  have htl:(M.take n).length=n:=by rw [List.length_take];omega
  rw [hsplit] at p4
  refine(pop_m W0 Q hb g cap (M.take n) r W p4 (by omega)).mono fun e w' ⟨hv,hs,hk⟩=>⟨hv,M.take n,?_,?_,hs,((Kq.of hk1).trans (Kq.of p5)).trans hk⟩
  ·have h3:(M.take n++[r]).Perm L:=by rw [<- hsplit];exact p1.trans hperm
   exact(List.perm_append_singleton r (M.take n)).symm.trans h3
  ·rw [htl]
   exact p2.take (Nat.le_refl _)
 rw [hn] at hml hms hsw hbx
 clear hS hH c1 c2 c3 hs1 hk1 hD hX hlast hperm hq h0
 go_enter Tryz.func179,Tryz.ntmps179
 go_wp2_with (first | (go_at_call 182;refine(len_run _ _ _ _).mono ?_;rintro e w0 ⟨rfl,hw0⟩;rw [<- hw0];clear hw0 w0) | (go_at_call 238;refine hsw.mono ?_;rintro e w1 ⟨rfl,rfl⟩) | (go_at_call 208;fail))
 refine hdn.mono ?_
 rintro e w2 ⟨⟨bb,rfl⟩,M,p1,p2,p3,p4,p5⟩
 have hpm:=HPM.out M w2 p1 p2 p3 p4 p5
 clear hdn HPM p1 p2 p3 p4 p5 hsw hml hms
 go_wp2_with (go_at_call 236;fail)
 refine hpm.mono ?_
 rintro e w3 ⟨rfl,hM⟩
 have HM:Hid (∃ M:List flM.Ms,(r :: M).Perm L/\hp.Heap less M M.length/\SG W0 hb Q g cap M w3/\Kq hb g w w3):=hM
 clear hpm hM
 go_wp2
 go_ret
 exact⟨rfl,HM.out⟩
end Go.Proofs.YteoojodkkjepeaaGreat.qpo
namespace Go.Proofs.YteoojodkkjepeaaGreat.qop
open ChangeShapes WideShapes ChangeAt RowKit fl qit qst qpu qpo
theorem asc_lt {L:List flM.Ms}(h:∀ (i:Nat) (a b:flM.Ms),L[i]?=some a->L[i+1]?=some b->a.q<b.q):∀ (d i:Nat) (a b:flM.Ms),L[i]?=some a->L[i+d+1]?=some b->a.q<b.q
 | 0,i,a,b,ha,hb=>h i a b ha hb
 | d+1,i,a,b,ha,hb=>by
  have hlt:=(List.getElem?_eq_some_iff.1 hb).1
  have hm:L[i+d+1]?=some (L[i+d+1]'(by omega)):=List.getElem?_eq_getElem _
  have h1:=asc_lt h d i a _ ha hm
  have h2:=h (i+d+1) _ b hm hb
  omega
theorem sorted_heap {L:List flM.Ms}(h:∀ (i:Nat) (a b:flM.Ms),L[i]?=some a->L[i+1]?=some b->a.q<b.q):hp.Heap less L L.length:=fun i h0 hi a b ha hb=>by
 have hpl:=hp.P_lt h0
 have:=asc_lt h (i - hp.P i - 1) (hp.P i) a b ha (by rw [show hp.P i+(i - hp.P i - 1)+1=i by omega];exact hb)
 simp only [less,decide_eq_false_iff_not]
 omega
theorem hr_own {w:World}{g:Nat}{L:List flM.Ms}(h:Own flM.c 5 48 w g L L.length)(hl:L.length <= 1048576):HR w g L.length L:=by
 obtain⟨cur,h1,h2,h3⟩:=h
 exact⟨cur,h1,h2,Nat.le_refl _,by unfold maxLen;omega,fun i r hr j v hv=>h3 i r (List.getElem?_eq_some_iff.1 hr).1 hr j v hv⟩
theorem open_of (nm:ByteArray)(nx:Int)(es:List flM.Ms)(ms:List flH.Hd)(a0 b0 ec bc:Nat)(w:World)(hn:nm.size <= 1048576)(hel:es.length <= 1048576)(hbl:ms.length <= 1048576)(hes:∀ e∈es,e.x.size <= 1048576/\e.k.size <= 1048576/\e.b.size <= 1048576)(hbs:∀ e∈ms,e.m.x.size <= 1048576/\e.m.k.size <= 1048576/\e.m.b.size <= 1048576)(hE:Row flM.c 5 w w.heap.size (some ⟨a0,0,none⟩) es)(hB:Row flH.c 7 w w.heap.size (some ⟨b0,0,none⟩) ms) :
  Calls Tryz.prog 139 #[.agg #[.string nm,.int .i64 nx,.slice (some ⟨a0,0,none⟩) es.length ec,.slice (some ⟨b0,0,none⟩) ms.length bc]] w fun e w'=>∃ hb g h,e=.returned (.pointer (some ⟨hb,0,none⟩))/\SG w hb ⟨nm,nx,some ⟨h,0,none⟩,ms.length,ms.length⟩ g es.length es w'/\Own flH.c 7 102 w' h ms ms.length/\w.heap.size <= h/\h≠hb:=by
 have hb0:=fl.bl w (.cells #[.string nm,.int .i64 nx,.slice (some ⟨a0,0,none⟩) es.length ec,.slice (some ⟨b0,0,none⟩) ms.length bc] 68)
 have hcq:=cqu.copy_queue nm nx es ms a0 b0 ec bc _ hn hel hbl hes hbs (hE.inn hb0) (hB.inn hb0)
 clear hE hB hes hbs
 go_enter Tryz.func139,Tryz.ntmps139
 go_wp2_with (go_at_call 118;fail)
 refine hcq.mono ?_
 rintro e w1 ⟨g,h,rfl,hg,hh,hgh,oe,om,hb1⟩
 have hs1:=hb1.size
 have hB1:=fl.bt hb0 hb1
 have ha1:Below w1.heap.size w1 ((w1.alloc (.cells #[.string nm,.int .i64 nx,.slice (some ⟨g,0,none⟩) es.length es.length,.slice (some ⟨h,0,none⟩) ms.length ms.length] 68)).alloc (.cells #[.slice (some ⟨g,0,none⟩) es.length es.length,.string nm,.int .i64 nx,.slice (some ⟨h,0,none⟩) ms.length ms.length] 174)):=((Below.refl _ _).alloc (Nat.le_refl _) _).alloc (by simp) _
 have hnew:=bnew (w1.alloc (.cells #[.string nm,.int .i64 nx,.slice (some ⟨g,0,none⟩) es.length es.length,.slice (some ⟨h,0,none⟩) ms.length ms.length] 68)) #[.slice (some ⟨g,0,none⟩) es.length es.length,.string nm,.int .i64 nx,.slice (some ⟨h,0,none⟩) ms.length ms.length] 174
 rw [World.size_alloc] at hnew
 have hgl:=oe.lt
 have hhl:=om.lt
 have HF:Hid (SG w (w1.heap.size+1) ⟨nm,nx,some ⟨h,0,none⟩,ms.length,ms.length⟩ g es.length es ((w1.alloc (.cells #[.string nm,.int .i64 nx,.slice (some ⟨g,0,none⟩) es.length es.length,.slice (some ⟨h,0,none⟩) ms.length ms.length] 68)).alloc (.cells #[.slice (some ⟨g,0,none⟩) es.length es.length,.string nm,.int .i64 nx,.slice (some ⟨h,0,none⟩) ms.length ms.length] 174))/\Own flH.c 7 102 ((w1.alloc (.cells #[.string nm,.int .i64 nx,.slice (some ⟨g,0,none⟩) es.length es.length,.slice (some ⟨h,0,none⟩) ms.length ms.length] 68)).alloc (.cells #[.slice (some ⟨g,0,none⟩) es.length es.length,.string nm,.int .i64 nx,.slice (some ⟨h,0,none⟩) ms.length ms.length] 174)) h ms ms.length):=by
  rw [World.size_alloc] at hg
  exact⟨⟨hB1.trans (ha1.mono hB1.size),by have:=hB1.size;omega,by omega,by omega,hnew,hr_own (oe.below ha1 hgl) hel,fun _ _=>trivial⟩,om.below ha1 hhl⟩
 have hh2:w.heap.size <= h:=by rw [World.size_alloc] at hh;omega
 clear hcq oe om hnew
 go_wp2
 go_ret
 exact⟨w1.heap.size+1,g,h,rfl,HF.out.1,HF.out.2,hh2,by omega⟩
theorem SN.on {W0:World}{hb:Nat}{Q:Qx}{L:List flM.Ms}{w w':World}(h:SN W0 hb Q L w)(hb':Below w.heap.size w w'):SN W0 hb Q L w':=by
 obtain⟨v,h1,h2,h3⟩:=h.box
 refine⟨h.bel.trans (hb'.mono h.bel.size),h.hbB,⟨v,bstay h1 hb' (Array.getElem?_eq_some_iff.1 h1).1,?_,h3⟩,h.fits⟩
 refine h2.kept (row:=none) ⟨hb'.os,hb'.tape,hb'.output,hb'.size,fun i hi _=>hb'.block i hi⟩ ?_
 cases hv:v.ownBlock with
 | none=>exact .inl rfl
 | some g=>right;simp
theorem SG.off {W0:World}{hb g cap:Nat}{Q:Qx}{L:List flM.Ms}{w:World}(h:SG W0 hb Q g cap L w)(b o:Nat)(v:Value)(h1:hb≠b)(h2:g≠b)(h3:W0.heap.size <= b):SG W0 hb Q g cap L (w.setCell ⟨b,o,none⟩ v) :=
 ⟨h.bel.setCell h3 v,h.hbB,h.gB,h.ne,boff h.box b o v h1,h.row.below (Below.heap_setCell _ _ _ g h2),h.fits⟩
theorem Kq.off {hb g b:Nat}{a w:World}(h:Kq hb g a w)(o:Nat)(v:Value)(hb':a.heap.size <= b):Kq hb g a (w.setCell ⟨b,o,none⟩ v):=by
 have h0:Below 0 w (w.setCell ⟨b,o,none⟩ v):=(Below.refl 0 w).setCell (Nat.zero_le _) v
 exact⟨h0.os.trans h.os,h0.tape.trans h.tape,h0.output.trans h.output,Nat.le_trans h.size h0.size,fun k hk h1 h2=>(Below.heap_setCell _ _ _ k (by show k≠b;omega)).trans (h.block k hk h1 h2)⟩
theorem Kq.on {hb g:Nat}{a w w':World}(h:Kq hb g a w)(hb':Below w.heap.size w w'):Kq hb g a w' :=
 ⟨hb'.os.trans h.os,hb'.tape.trans h.tape,hb'.output.trans h.output,Nat.le_trans h.size hb'.size,fun k hk h1 h2=>(hb'.block k (Nat.lt_of_lt_of_le hk h.size)).trans (h.block k hk h1 h2)⟩
theorem first_run (W0:World)(Q:Qx)(hb g cap:Nat)(L:List flM.Ms)(r:flM.Ms)(w:World)(hS:SG W0 hb Q g cap L w)(h0:L[0]?=some r)(hl:L.length <= 1000)(hH:hp.Heap less L L.length) :
  Calls Tryz.prog 140 #[.pointer (some ⟨hb,0,none⟩)] w fun e w'=>e=.returned (.agg #[.int .i64 r.q,.string r.x,.string r.k,.string r.b,.bool r.a])/\∃ M:List flM.Ms,(r :: M).Perm L/\hp.Heap less M M.length/\SG W0 hb Q g cap M w'/\Kq hb g w w':=by
 have hal:=fl.bl w (.cells #[.int .i64 0,.string ⟨#[]⟩,.string ⟨#[]⟩,.string ⟨#[]⟩,.bool false] 48)
 have hX:=bnew w #[.int .i64 0,.string ⟨#[]⟩,.string ⟨#[]⟩,.string ⟨#[]⟩,.bool false] 48
 have hgl:g<w.heap.size:=by obtain⟨cur,h1,_⟩:=hS.row;exact(Array.getElem?_eq_some_iff.1 h1).1
 have hbl:hb<w.heap.size:=(Array.getElem?_eq_some_iff.1 hS.box).1
 have hWB:W0.heap.size <= w.heap.size:=hS.bel.size
 have hpo:=pop_run W0 Q hb g cap L r _ (hS.on hal) h0 hl hH
 have hta:∀ W:World,(Instr.typeAssert (.iface 48 (.agg #[.int .i64 r.q,.string r.x,.string r.k,.string r.b,.bool r.a])) 20 48 true).run Tryz.prog W=.ok (.tuple #[.agg #[.int .i64 r.q,.string r.x,.string r.k,.string r.b,.bool r.a],.bool true]) W:=fun W=>by kernel_rfl
 have HAL:Hid (Kq hb g w (w.alloc (.cells #[.int .i64 0,.string ⟨#[]⟩,.string ⟨#[]⟩,.string ⟨#[]⟩,.bool false] 48))):=⟨hal.os,hal.tape,hal.output,hal.size,fun k hk _ _=>hal.block k hk⟩
 have HX:Hid ((w.alloc (.cells #[.int .i64 0,.string ⟨#[]⟩,.string ⟨#[]⟩,.string ⟨#[]⟩,.bool false] 48)).heap[w.heap.size]?=some (.cells #[.int .i64 0,.string ⟨#[]⟩,.string ⟨#[]⟩,.string ⟨#[]⟩,.bool false] 48 (0,0))):=hX
 clear hS hH h0 hX
 go_enter Tryz.func140,Tryz.ntmps140
 go_wp2_with (go_at_call 179;fail)
 refine hpo.mono ?_
 rintro e w1 ⟨rfl,M,h1,h2,h3,h4⟩
 have x1:=(h4.block w.heap.size (by simp) (by omega) (by omega)).trans HX.out
 have hal2:=fl.bl w1 (.cells #[.int .i64 r.q,.string r.x,.string r.k,.string r.b,.bool r.a] 48)
 have hwl:=(Array.getElem?_eq_some_iff.1 x1).1
 have y1:=bold x1 (.cells #[.int .i64 r.q,.string r.x,.string r.k,.string r.b,.bool r.a] 48)
 obtain⟨Y,hY⟩:∃ Y,w1.alloc (.cells #[.int .i64 r.q,.string r.x,.string r.k,.string r.b,.bool r.a] 48)=Y:=⟨_,rfl⟩
 rw [hY] at hal2 y1
 have hN:=bnew w1 #[.int .i64 r.q,.string r.x,.string r.k,.string r.b,.bool r.a] 48
 rw [hY] at hN
 obtain⟨z0,z1,z2,z3,z4⟩:=fl.q5 y1
 obtain⟨f0,f1,f2,f3,f4⟩:=fl.r5 y1
 obtain⟨n0,n1,n2,n3,n4⟩:=fl.q5 hN
 have hwB:W0.heap.size <= w.heap.size:=hWB
 have HF:Hid ((r :: M).Perm L/\hp.Heap less M M.length/\SG W0 hb Q g cap M Y/\Kq hb g w Y):=⟨h1,h2,h3.on hal2,Kq.on (HAL.out.trans h4) hal2⟩
 clear hpo h1 h2 h3 h4 x1 y1 hN hal2
 go_wp2
 refine bodyPost_ret (v:=.agg #[.int .i64 r.q,.string r.x,.string r.k,.string r.b,.bool r.a]) (by simp [results,Tryz.results140,go_sem,z0,z1,z2,z3,z4]) rfl ⟨rfl,M,HF.out.1,HF.out.2.1,?_,?_⟩
 ·exact SG.off (SG.off (SG.off (SG.off (SG.off HF.out.2.2.1 _ _ _ (by omega) (by omega) hwB) _ _ _ (by omega) (by omega) hwB) _ _ _ (by omega) (by omega) hwB) _ _ _ (by omega) (by omega) hwB) _ _ _ (by omega) (by omega) hwB
 ·exact Kq.off (Kq.off (Kq.off (Kq.off (Kq.off HF.out.2.2.2 _ _ (Nat.le_refl _)) _ _ (Nat.le_refl _)) _ _ (Nat.le_refl _)) _ _ (Nat.le_refl _)) _ _ (Nat.le_refl _)
end Go.Proofs.YteoojodkkjepeaaGreat.qop
