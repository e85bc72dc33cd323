/- QDown, QPtrApp, QPush. -/
import Derived.Test.YteoojodkkjepeaaGreatKn29
import Derived.Test.YteoojodkkjepeaaGreatKn10
import Derived.Test.YteoojodkkjepeaaGreatKn19
import Derived.Maps.AppendAt
set_option maxRecDepth 100000
set_option maxHeartbeats 8000000
set_option linter.unusedVariables false
namespace Go.Proofs.YteoojodkkjepeaaGreat.qdn
open ChangeShapes WideShapes ChangeAt RowKit fl qit qst
structure Rd (W0:World)(hb:Nat)(Q:qit.Qx)(g cap n:Nat)(L:List flM.Ms)(w:World)(k:Nat)(M:List flM.Ms)(wr:World):Prop where
 kn:k<n ∨ k=0
 len:M.length=L.length
 perm:M.Perm L
 dn:hp.DnI less M k n
 rest:∀ q,n <= q->M[q]?=L[q]?
 st:SG W0 hb Q g cap M wr
 kp:Kp g w wr
theorem Rd.on {W0:World}{Q:qit.Qx}{hb g cap n k:Nat}{L M:List flM.Ms}{w wr w1:World}(h:Rd W0 hb Q g cap n L w k M wr)(hb1:Below wr.heap.size wr w1):Rd W0 hb Q g cap n L w k M w1:=⟨h.kn,h.len,h.perm,h.dn,h.rest,h.st.on hb1,h.kp.trans (Kp.of hb1)⟩
theorem Rd.swap {W0:World}{Q:qit.Qx}{hb g cap n k j:Nat}{L M:List flM.Ms}{w wr:World}{A J:flM.Ms}(h:Rd W0 hb Q g cap n L w k M wr)(hA:M[k]?=some A)(hJ:M[j]?=some J)(hkn:k<n)(hjn:j<n)(hd:hp.DnI less (hp.sw M k j) j n):Rd W0 hb Q g cap n L w j (hp.sw M k j) (qsw.S2 wr.drew g k j A J):=by
 obtain⟨h1,h2⟩:=h.st.swap hA hJ
 exact⟨.inl hjn,hp.sw_len.trans h.len,(hp.sw_perm hA hJ).trans h.perm,hd,fun q hq=>by rw [hp.sw_else hA hJ (by omega) (by omega)];exact h.rest q hq,h1,h.kp.trans h2⟩
def Fin (W0:World)(hb:Nat)(Q:qit.Qx)(g cap n:Nat)(L:List flM.Ms)(w w':World):Prop:=∃ M:List flM.Ms,M.Perm L/\hp.Heap less M n/\(∀ q,n <= q->M[q]?=L[q]?)/\SG W0 hb Q g cap M w'/\Kp g w w'
theorem Rd.fin {W0:World}{Q:qit.Qx}{hb g cap n k:Nat}{L M:List flM.Ms}{w wr:World}(h:Rd W0 hb Q g cap n L w k M wr)(hh:hp.Heap less M n):Fin W0 hb Q g cap n L w wr:=⟨M,h.perm,hh,h.rest,h.st,h.kp⟩
theorem ask {W0:World}{Q:qit.Qx}{hb g cap n k:Nat}{L M:List flM.Ms}{w wr:World}(h:Rd W0 hb Q g cap n L w k M wr){i j:Nat}{A B:flM.Ms}(hi:M[i]?=some A)(hj:M[j]?=some B) :
  Calls Tryz.prog 235 #[.slice (some ⟨g,0,none⟩) M.length cap,.int .i64 i,.int .i64 j] wr fun r w'=>r=.returned (.bool (less A B))/\Below wr.heap.size wr w' :=
 qit.less_run g M.length cap i j A B wr (List.getElem?_eq_some_iff.1 hi).1 (List.getElem?_eq_some_iff.1 hj).1 (h.st.row.at hi) (h.st.row.at hj) (h.st.fit hi) (h.st.fit hj)
theorem turn {W0:World}{Q:qit.Qx}{hb g cap n k:Nat}{L M:List flM.Ms}{w wr:World}(h:Rd W0 hb Q g cap n L w k M wr){i j:Nat}{A B:flM.Ms}(hi:M[i]?=some A)(hj:M[j]?=some B) :
  Calls Tryz.prog 238 #[.slice (some ⟨g,0,none⟩) M.length cap,.int .i64 i,.int .i64 j] wr fun r w'=>r=.returned (.tuple #[])/\w'=qsw.S2 wr.drew g i j A B:=by
 obtain⟨cur,c1,c2,c3,_⟩:=h.st.row
 exact qsw.swap_run g M.length cap i j cur A B wr (List.getElem?_eq_some_iff.1 hi).1 (List.getElem?_eq_some_iff.1 hj).1 (by omega) c1 (h.st.row.at hi) (h.st.row.at hj)
theorem getM {M:List flM.Ms}{i:Nat}(h:i<M.length):∃ A,M[i]?=some A:=⟨_,List.getElem?_eq_getElem h⟩
theorem down_run (W0:World)(Q:qit.Qx)(hb g cap i n:Nat)(L:List flM.Ms)(w:World)(hS:SG W0 hb Q g cap L w)(hin:i<n ∨ i=0)(hnl:n <= L.length)(hl:L.length <= 1000)(hD:hp.DnI less L i n) :
  Calls Tryz.prog 208 #[.iface 168 (.pointer (some ⟨hb,0,none⟩)),.int .i64 i,.int .i64 n] w fun e w'=>(∃ b:Bool,e=.returned (.bool b))/\Fin W0 hb Q g cap n L w w':=by
 have HR0:Hid (Rd W0 hb Q g cap n L w i L w):=⟨hin,rfl,List.Perm.refl _,hD,fun _ _=>rfl,hS,Kp.refl _ _⟩
 have hn100:n <= 1000:=by omega
 have HNL:Hid (n <= L.length):=hnl
 clear hS hD hnl hl
 go_enter Tryz.func208,Tryz.ntmps208
 go_wp2
 go_loopw [7,8,9,10] (fun x _ _ _ wr=>∃ (k:Nat) (M:List flM.Ms),x=.int .i64 k/\k <= 1000/\Hid (Rd W0 hb Q g cap n L w k M wr)) (fun x _ _ _ _=>n - (intOf x).toNat)
 case atStart=>exact⟨i,L,rfl,by omega,HR0⟩
 case round =>
  obtain⟨k,M,rfl,hk100,hrd⟩:=hrel
  by_cases h1:2*k+1<n
  case neg =>
   have hf:Hid (Fin W0 hb Q g cap n L w wr):=hrd.out.fin (hp.down_end hrd.out.dn (hp.none_child h1))
   have c1:(n:Int) <= 2*(k:Int)+1:=by omega
   clear h1
   go_wp2
   go_ret
   exact⟨⟨_,rfl⟩,hf.out⟩
  case pos =>
   have hML:Hid (n <= M.length):=by unfold Hid;rw [hrd.out.len];exact HNL.out
   obtain⟨A,gA⟩:=getM (M:=M) (i:=k) (by have:=hML.out;omega)
   have HA:Hid (M[k]?=some A):=gA
   obtain⟨J1,g1⟩:=getM (M:=M) (i:=2*k+1) (by have:=hML.out;omega)
   have H1:Hid (M[2*k+1]?=some J1):=g1
   clear gA g1
   have c1:¬ (n:Int) <= 2*(k:Int)+1:=by omega
   have c2:¬ 2*(k:Int)+1<0:=by omega
   have hbx:wr.cell? ⟨hb,0,none⟩=some (.slice (some ⟨g,0,none⟩) M.length cap):=bcell hrd.out.st.box rfl
   have hm:=meth_less hb _ wr hbx
   by_cases h2:2*k+2<n
   case pos =>
    obtain⟨J2,g2⟩:=getM (M:=M) (i:=2*k+2) (by have:=hML.out;omega)
    have H2:Hid (M[2*k+2]?=some J2):=g2
    clear g2
    have c3:2*(k:Int)+1+1<(n:Int):=by omega
    have hask:=ask hrd.out H2.out H1.out
    have e2:((2*k+2:Nat):Int)=2*(k:Int)+1+1:=by omega
    have e1:((2*k+1:Nat):Int)=2*(k:Int)+1:=by omega
    rw [e2,e1] at hask
    have HL2:Hid (less J2 J1=true->∀ c,0<c->c<n->hp.P c=k->hp.Le less M (2*k+2) c):=fun h=>hp.least_two ord H1.out H2.out h
    have HL1:Hid (less J2 J1=false->∀ c,0<c->c<n->hp.P c=k->hp.Le less M (2*k+1) c):=fun h=>hp.least_one ord H1.out (fun _ y hy=>by rw [H2.out] at hy;cases hy;exact h)
    obtain⟨b1,hb1⟩:∃ b,less J2 J1=b:=⟨_,rfl⟩
    rw [hb1] at hask HL1 HL2
    clear hb1
    go_wp2_with (go_at_call 235;fail)
    refine hask.mono ?_
    rintro e w1 ⟨rfl,hbe1⟩
    have HR1:Hid (Rd W0 hb Q g cap n L w k M w1):=hrd.out.on hbe1
    clear hask hm hbx hbe1 hrd
    cases b1 with
    | false =>
     have HLE:Hid (∀ c,0<c->c<n->hp.P c=k->hp.Le less M (2*k+1) c):=HL1.out rfl
     clear HL1 HL2 H2
     have eJ:((2*k+1:Nat):Int)=2*(k:Int)+1:=by omega
     have hbx1:w1.cell? ⟨hb,0,none⟩=some (.slice (some ⟨g,0,none⟩) M.length cap):=bcell HR1.out.st.box rfl
     have hm1:=meth_less hb _ w1 hbx1
     have hask1:=ask HR1.out H1.out HA.out
     rw [eJ] at hask1
     have HD2:Hid (less J1 A=true->hp.DnI less (hp.sw M k (2*k+1)) (2*k+1) n):=fun h=>hp.down_step ord HA.out H1.out (by omega) (by omega) (hp.P_one k) HR1.out.dn h HLE.out
     have HD3:Hid (less J1 A=false->hp.Heap less M n):=fun h=>hp.down_end HR1.out.dn (hp.least_end ord H1.out HA.out h HLE.out)
     obtain⟨b2,hb2⟩:∃ b,less J1 A=b:=⟨_,rfl⟩
     rw [hb2] at hask1 HD2 HD3
     clear hb2 HLE
     go_wp2_with (go_at_call 235;fail)
     refine hask1.mono ?_
     rintro e w2 ⟨rfl,hbe2⟩
     have HR2:Hid (Rd W0 hb Q g cap n L w k M w2):=HR1.out.on hbe2
     clear hask1 hm1 hbx1 hbe2
     cases b2 with
     | false =>
      have hf:Hid (Fin W0 hb Q g cap n L w w2):=HR2.out.fin (HD3.out rfl)
      clear HD2 HD3
      go_wp2
      go_ret
      exact⟨⟨_,rfl⟩,hf.out⟩
     | true =>
      have hbx2:w2.cell? ⟨hb,0,none⟩=some (.slice (some ⟨g,0,none⟩) M.length cap):=bcell HR2.out.st.box rfl
      have hm2:=meth_swap hb _ w2 hbx2
      have hsw:=turn HR2.out HA.out H1.out
      have HR3:Hid (Rd W0 hb Q g cap n L w (2*k+1) (hp.sw M k (2*k+1)) (qsw.S2 w2.drew g k (2*k+1) A J1)):=HR2.out.swap HA.out H1.out (by omega) (by omega) (HD2.out rfl)
      obtain⟨X,hX⟩:∃ X,qsw.S2 w2.drew g k (2*k+1) A J1=X:=⟨_,rfl⟩
      rw [hX] at hsw HR3
      rw [eJ] at hsw
      clear hX HD2 HD3
      go_wp2_with (go_at_call 238;fail)
      refine hsw.mono ?_
      rintro e w3 ⟨rfl,rfl⟩
      clear hsw hm2 hbx2
      go_wp2
      go_roundw
      case rel=>exact⟨2*k+1,hp.sw M k (2*k+1),by rw [eJ],by omega,HR3⟩
      case measure=>simp [intOf];omega
    | true =>
     have HLE:Hid (∀ c,0<c->c<n->hp.P c=k->hp.Le less M (2*k+2) c):=HL2.out rfl
     clear HL1 HL2 H1
     have eJ:((2*k+2:Nat):Int)=2*(k:Int)+1+1:=by omega
     have hbx1:w1.cell? ⟨hb,0,none⟩=some (.slice (some ⟨g,0,none⟩) M.length cap):=bcell HR1.out.st.box rfl
     have hm1:=meth_less hb _ w1 hbx1
     have hask1:=ask HR1.out H2.out HA.out
     rw [eJ] at hask1
     have HD2:Hid (less J2 A=true->hp.DnI less (hp.sw M k (2*k+2)) (2*k+2) n):=fun h=>hp.down_step ord HA.out H2.out (by omega) (by omega) (hp.P_two k) HR1.out.dn h HLE.out
     have HD3:Hid (less J2 A=false->hp.Heap less M n):=fun h=>hp.down_end HR1.out.dn (hp.least_end ord H2.out HA.out h HLE.out)
     obtain⟨b2,hb2⟩:∃ b,less J2 A=b:=⟨_,rfl⟩
     rw [hb2] at hask1 HD2 HD3
     clear hb2 HLE
     go_wp2_with (go_at_call 235;fail)
     refine hask1.mono ?_
     rintro e w2 ⟨rfl,hbe2⟩
     have HR2:Hid (Rd W0 hb Q g cap n L w k M w2):=HR1.out.on hbe2
     clear hask1 hm1 hbx1 hbe2
     cases b2 with
     | false =>
      have hf:Hid (Fin W0 hb Q g cap n L w w2):=HR2.out.fin (HD3.out rfl)
      clear HD2 HD3
      go_wp2
      go_ret
      exact⟨⟨_,rfl⟩,hf.out⟩
     | true =>
      have hbx2:w2.cell? ⟨hb,0,none⟩=some (.slice (some ⟨g,0,none⟩) M.length cap):=bcell HR2.out.st.box rfl
      have hm2:=meth_swap hb _ w2 hbx2
      have hsw:=turn HR2.out HA.out H2.out
      have HR3:Hid (Rd W0 hb Q g cap n L w (2*k+2) (hp.sw M k (2*k+2)) (qsw.S2 w2.drew g k (2*k+2) A J2)):=HR2.out.swap HA.out H2.out (by omega) (by omega) (HD2.out rfl)
      obtain⟨X,hX⟩:∃ X,qsw.S2 w2.drew g k (2*k+2) A J2=X:=⟨_,rfl⟩
      rw [hX] at hsw HR3
      rw [eJ] at hsw
      clear hX HD2 HD3
      go_wp2_with (go_at_call 238;fail)
      refine hsw.mono ?_
      rintro e w3 ⟨rfl,rfl⟩
      clear hsw hm2 hbx2
      go_wp2
      go_roundw
      case rel=>exact⟨2*k+2,hp.sw M k (2*k+2),by rw [eJ],by omega,HR3⟩
      case measure=>simp [intOf];omega
   case neg =>
    have c3:¬ 2*(k:Int)+1+1<(n:Int):=by omega
    have HLE:Hid (∀ c,0<c->c<n->hp.P c=k->hp.Le less M (2*k+1) c):=hp.least_one ord H1.out (fun h=>absurd h h2)
    clear hm hbx
    have eJ:((2*k+1:Nat):Int)=2*(k:Int)+1:=by omega
    have hbx1:wr.cell? ⟨hb,0,none⟩=some (.slice (some ⟨g,0,none⟩) M.length cap):=bcell hrd.out.st.box rfl
    have hm1:=meth_less hb _ wr hbx1
    have hask1:=ask hrd.out H1.out HA.out
    rw [eJ] at hask1
    have HD2:Hid (less J1 A=true->hp.DnI less (hp.sw M k (2*k+1)) (2*k+1) n):=fun h=>hp.down_step ord HA.out H1.out (by omega) (by omega) (hp.P_one k) hrd.out.dn h HLE.out
    have HD3:Hid (less J1 A=false->hp.Heap less M n):=fun h=>hp.down_end hrd.out.dn (hp.least_end ord H1.out HA.out h HLE.out)
    obtain⟨b2,hb2⟩:∃ b,less J1 A=b:=⟨_,rfl⟩
    rw [hb2] at hask1 HD2 HD3
    clear hb2 HLE
    go_wp2_with (go_at_call 235;fail)
    refine hask1.mono ?_
    rintro e w2 ⟨rfl,hbe2⟩
    have HR2:Hid (Rd W0 hb Q g cap n L w k M w2):=hrd.out.on hbe2
    clear hask1 hm1 hbx1 hbe2
    cases b2 with
    | false =>
     have hf:Hid (Fin W0 hb Q g cap n L w w2):=HR2.out.fin (HD3.out rfl)
     clear HD2 HD3
     go_wp2
     go_ret
     exact⟨⟨_,rfl⟩,hf.out⟩
    | true =>
     have hbx2:w2.cell? ⟨hb,0,none⟩=some (.slice (some ⟨g,0,none⟩) M.length cap):=bcell HR2.out.st.box rfl
     have hm2:=meth_swap hb _ w2 hbx2
     have hsw:=turn HR2.out HA.out H1.out
     have HR3:Hid (Rd W0 hb Q g cap n L w (2*k+1) (hp.sw M k (2*k+1)) (qsw.S2 w2.drew g k (2*k+1) A J1)):=HR2.out.swap HA.out H1.out (by omega) (by omega) (HD2.out rfl)
     obtain⟨X,hX⟩:∃ X,qsw.S2 w2.drew g k (2*k+1) A J1=X:=⟨_,rfl⟩
     rw [hX] at hsw HR3
     rw [eJ] at hsw
     clear hX HD2 HD3
     go_wp2_with (go_at_call 238;fail)
     refine hsw.mono ?_
     rintro e w3 ⟨rfl,rfl⟩
     clear hsw hm2 hbx2
     go_wp2
     go_roundw
     case rel=>exact⟨2*k+1,hp.sw M k (2*k+1),by rw [eJ],by omega,HR3⟩
     case measure=>simp [intOf];omega
end Go.Proofs.YteoojodkkjepeaaGreat.qdn
namespace Go.Proofs.YteoojodkkjepeaaGreat.qpap
open ChangeShapes WideShapes ChangeAt RowKit fl
theorem add0 (g j:Nat):(⟨g,0,none⟩:Addr).add j=⟨g,j,none⟩:=by unfold Addr.add;split <;> simp_all
structure G where
 h:Nat
 v1:Value
structure Pm where
 W0:World
 B:Nat
 hb:Nat
 TB:TypeId
 T:TypeId
 n:Nat
 v0:Value
 k:Nat
 xs:List Value
 ms:List Value
 r1:Value
 r2:Value
 r3:Value
structure Ok (p:Pm):Prop where
 hB:p.B <= p.W0.heap.size
 hbB:p.B <= p.hb
 box:p.W0.heap[p.hb]?=some (.cells #[p.v0,p.r1,p.r2,p.r3] p.TB (0,0))
 own:p.W0.ownsRow p.B p.T p.n p.v0 p.k p.xs
 ne:p.v0.ownBlock≠some p.hb
structure D (p:Pm)(g:G)(cl cm cb ca cs:Bool)(W:World):Prop where
 bel:Below p.B p.W0 W
 bel2:ca=false->Below p.W0.heap.size p.W0 W
 box:W.heap[p.hb]?=some (.cells #[if cs=true then g.v1 else p.v0,p.r1,p.r2,p.r3] p.TB (0,0))
 atb:cb=true->cm=true/\(ca=false->W.heap[g.h]?=some (.cells p.ms.toArray p.T (0,0)))
 ata:ca=true->cl=true/\cb=true/\W.ownsRow p.B p.T p.n g.v1 (p.k+1) (p.xs++p.ms)/\g.v1.ownBlock≠some p.hb
 ats:cs=true->ca=true
 kpt:∀ k,k<p.W0.heap.size->k≠p.hb->p.v0.ownBlock≠some k->W.heap[k]?=p.W0.heap[k]?
structure J where
 jl:Nat
 jm:Nat
 jb:Nat
 ja:Nat
 js:Nat
def J.ok (x:J):Prop:=x.jl≠x.jm/\x.jl≠x.jb/\x.jl≠x.ja/\x.jl≠x.js/\x.jm≠x.jb/\x.jm≠x.ja/\x.jm≠x.js/\x.jb≠x.ja/\x.jb≠x.js/\x.ja≠x.js
def C (p:Pm)(x:J)(g:G)(L:Nat->Bool)(W:World):Prop:=D p g (L x.jl) (L x.jm) (L x.jb) (L x.ja) (L x.js) W
theorem start {p:Pm}(O:Ok p)(x:J)(g:G):C p x g (fun _=>false) p.W0.drew :=
 ⟨(Below.refl _ _).drew,fun _=>(Below.refl _ _).drew,O.box,fun h=>(by cases h),fun h=>(by cases h),fun h=>(by cases h),fun _ _ _ _=>rfl⟩
theorem more_on (L:Nat->Bool)(i:Nat):dn.more L i i=true:=by unfold dn.more;rw [if_pos rfl]
theorem more_off (L:Nat->Bool){i j:Nat}(h:j≠i):dn.more L i j=L j:=by unfold dn.more;rw [if_neg h]
section
variable {p:Pm} {x:J} {ws:G->List (Nat × Value)} {act:Act} {Q:Exit->Act->World->Prop} {o:Oper}
theorem quiet {i:Nat}(hi:i≠x.jl/\i≠x.jm/\i≠x.jb/\i≠x.ja/\i≠x.js)(hsel:∀ cs b,o.op≠.select cs b)(u:Value)(hd:∀ s d,o.dst=some d->(dk.sets act (ws s)).tmps[d]?=some u)
  (hrun:∀ s (W:World),(execOp (dk.sets act (ws s)).eval o).run Tryz.prog W=.ok (.value u) W):gh.Step Tryz.prog (fun s=>dk.sets act (ws s)) (C p x) Q i o:=by
 refine gh.step_val hsel fun s L W hdp h0 hC=>⟨s,u,gh.Agree.refl _ _,hd s,?_⟩
 rw [hrun s W]
 refine⟨rfl,?_⟩
 obtain⟨i0,i1,i2,i3,i4⟩:=hi
 unfold C
 rw [more_off L i0.symm,more_off L i1.symm,more_off L i2.symm,more_off L i3.symm,more_off L i4.symm]
 exact hC
theorem sl (hx:x.ok){d:Nat}(hsel:∀ cs b,o.op≠.select cs b)(hdst:o.dst=some d)(hd:∀ s,(dk.sets act (ws s)).tmps[d]?=some p.v0)
  (hrun:∀ s (W:World),W.heap[p.hb]?=some (.cells #[p.v0,p.r1,p.r2,p.r3] p.TB (0,0))->(execOp (dk.sets act (ws s)).eval o).run Tryz.prog W=.ok (.value p.v0) W):gh.Step Tryz.prog (fun s=>dk.sets act (ws s)) (C p x) Q x.jl o:=by
 refine gh.step_val hsel fun s L W hdp h0 hC=>⟨s,p.v0,gh.Agree.refl _ _,(fun d' hd'=>by rw [hdst] at hd';cases hd';exact hd s),?_⟩
 have hC':D p s (L x.jl) (L x.jm) (L x.jb) (L x.ja) (L x.js) W:=hC
 have na:L x.ja=false:=by
  cases h:L x.ja with
  | false=>rfl
  | true=>have:=(hC'.ata h).1;rw [h0] at this;cases this
 have ns:L x.js=false:=by
  cases h:L x.js with
  | false=>rfl
  | true=>have:=hC'.ats h;rw [na] at this;cases this
 have hb:=hC'.box
 rw [ns] at hb
 rw [hrun s W hb]
 refine⟨rfl,?_⟩
 obtain⟨x1,x2,x3,x4,_⟩:=hx
 unfold C
 rw [more_on,more_off L x1.symm,more_off L x2.symm,more_off L x3.symm,more_off L x4.symm]
 exact⟨hC'.bel,hC'.bel2,hC'.box,hC'.atb,fun h=>(by rw [na] at h;cases h),hC'.ats,hC'.kpt⟩
theorem sm (hx:x.ok){d:Nat}(u:Value)(hsel:∀ cs b,o.op≠.select cs b)(hdst:o.dst=some d)(hd:∀ s,(dk.sets act (ws s)).tmps[d]?=some u)
  (hrun:∀ s (W:World),Below p.W0.heap.size p.W0 W->(execOp (dk.sets act (ws s)).eval o).run Tryz.prog W=.ok (.value u) W):gh.Step Tryz.prog (fun s=>dk.sets act (ws s)) (C p x) Q x.jm o:=by
 refine gh.step_val hsel fun s L W hdp h0 hC=>⟨s,u,gh.Agree.refl _ _,(fun d' hd'=>by rw [hdst] at hd';cases hd';exact hd s),?_⟩
 have hC':D p s (L x.jl) (L x.jm) (L x.jb) (L x.ja) (L x.js) W:=hC
 have nb:L x.jb=false:=by
  cases h:L x.jb with
  | false=>rfl
  | true=>have:=(hC'.atb h).1;rw [h0] at this;cases this
 have na:L x.ja=false:=by
  cases h:L x.ja with
  | false=>rfl
  | true=>have:=(hC'.ata h).2.1;rw [nb] at this;cases this
 rw [hrun s W (hC'.bel2 na)]
 refine⟨rfl,?_⟩
 obtain⟨x1,_,_,_,x5,x6,x7,_⟩:=hx
 unfold C
 rw [more_on,more_off L x1,more_off L x5.symm,more_off L x6.symm,more_off L x7.symm]
 exact⟨hC'.bel,hC'.bel2,hC'.box,fun h=>(by rw [nb] at h;cases h),fun h=>(by rw [na] at h;cases h),hC'.ats,hC'.kpt⟩
theorem sb (O:Ok p)(hx:x.ok){d idx:Nat}(hsel:∀ cs b,o.op≠.select cs b)(hdst:o.dst=some d)(hsz:d<act.tmps.size)(ld:∀ g,(ws g).lookup d=some (.slice (some ⟨g.h,0,none⟩) 1 1))(hidx:∀ g,((ws g)[idx]?.map (·.1))=some d)(hset:∀ g (e:Nat),ws { g with h:=e }=(ws g).set idx (d,.slice (some ⟨e,0,none⟩) 1 1))
  (hrun:∀ s (W:World),(execOp (dk.sets act (ws s)).eval o).run Tryz.prog W=.ok (.value (.slice (some ⟨W.heap.size,0,none⟩) 1 1)) (W.alloc (.cells p.ms.toArray p.T))) (hdep:∃ e∈o.after,Region.binds .any e=true/\e.on=x.jm):gh.Step Tryz.prog (fun s=>dk.sets act (ws s)) (C p x) Q x.jb o:=by
 refine gh.step_val hsel fun s L W hdp h0 hC=>⟨{ s with h:=W.heap.size },.slice (some ⟨W.heap.size,0,none⟩) 1 1,dk.agree_sets idx d _ hdst (hidx s) (hset s _),(fun d' hd=>by rw [hdst] at hd;cases hd;exact dk.sets_on _ hsz _ (ld _)),?_⟩
 have hC':D p s (L x.jl) (L x.jm) (L x.jb) (L x.ja) (L x.js) W:=hC
 obtain⟨xp,mp,yp,zp⟩:=hdep
 have lm:=hdp xp mp yp
 rw [zp] at lm
 have na:L x.ja=false:=by
  cases h:L x.ja with
  | false=>rfl
  | true=>have:=(hC'.ata h).2.1;rw [h0] at this;cases this
 have ns:L x.js=false:=by
  cases h:L x.js with
  | false=>rfl
  | true=>have:=hC'.ats h;rw [na] at this;cases this
 rw [hrun s W]
 refine⟨rfl,?_⟩
 obtain⟨_,x2,_,_,x5,_,_,x8,x9,_⟩:=hx
 unfold C
 rw [more_on,more_off L x2,more_off L x5,more_off L x8.symm,more_off L x9.symm,lm,na,ns]
 have hb:=hC'.box
 rw [ns] at hb
 have hsz2:=(hC'.bel2 na).size
 exact⟨hC'.bel.alloc (Nat.le_trans O.hB hsz2) _,fun _=>(hC'.bel2 na).alloc hsz2 _,bold hb _,fun _=>⟨rfl,fun _=>bnew W _ _⟩,fun h=>(by cases h),fun h=>(by cases h),fun k hk _ _=>((hC'.bel2 na).alloc hsz2 _).block k hk⟩
theorem sa (O:Ok p)(hx:x.ok){ST:TypeId}{i0:TypeInfo}{z:Value}{bytes:Nat}(ht:Tryz.prog.underlying ST=some (.slice p.T))(hi:Tryz.prog.info? p.T=some i0)(hz:i0.zero=some z)(hn:i0.size=p.n)(hby0:i0.bytes=bytes)(hzs:z.cells.size=p.n)(hn0:0<p.n)
  {s1 s2 d idx:Nat} (hop:o.op=.call { callee:=.builtin .append,args:=#[.tmp s1,.tmp s2],argTypes:=#[ST,ST] }) (hdst:o.dst=some d) (hsz:d<act.tmps.size/\s1<act.tmps.size/\s2<act.tmps.size)
  (ld:∀ g,(ws g).lookup d=some g.v1) (l1:∀ g,(ws g).lookup s1=some p.v0) (l2:∀ g,(ws g).lookup s2=some (.slice (some ⟨g.h,0,none⟩) 1 1)) (hidx:∀ g,((ws g)[idx]?.map (·.1))=some d) (hset:∀ g (v:Value),ws { g with v1:=v }=(ws g).set idx (d,v))
  (hlen:p.ms.length=p.n) (h1c:∀ u∈p.ms,u.oneCell'=true) (hk:p.k <= 1048576) (hby:(p.k+1)*bytes <= 140737488355328)
  (hdep:∃ e∈o.after,Region.binds .any e=true/\e.on=x.jl) (hdep2:∃ e∈o.after,Region.binds .any e=true/\e.on=x.jb):gh.Step Tryz.prog (fun s=>dk.sets act (ws s)) (C p x) Q x.ja o:=by
 refine gh.step_val (by rw [hop];simp) fun s L W hdp h0 hC=>?_
 have hC':D p s (L x.jl) (L x.jm) (L x.jb) (L x.ja) (L x.js) W:=hC
 obtain⟨xp,mp,yp,zp⟩:=hdep
 have ll:=hdp xp mp yp
 rw [zp] at ll
 obtain⟨xq,mq,yq,zq⟩:=hdep2
 have lb:=hdp xq mq yq
 rw [zq] at lb
 have ns:L x.js=false:=by
  cases h:L x.js with
  | false=>rfl
  | true=>have:=hC'.ats h;rw [h0] at this;cases this
 have hb2:=hC'.bel2 h0
 have hcell:=(hC'.atb lb).2 h0
 have hown:W.ownsRow p.B p.T p.n p.v0 p.k p.xs:=O.own.kept (row:=none) ⟨hb2.os,hb2.tape,hb2.output,hb2.size,fun i hi _=>hb2.block i hi⟩ (by
  cases hv:p.v0.ownBlock with
  | none=>exact .inl rfl
  | some g=>right;simp)
 have hnews:∀ j u,p.ms[j]?=some u->W.cell? ((⟨s.h,0,none⟩:Addr).add j)=some u:=fun j u hu=>by
  rw [add0]
  exact bcell hcell (by simpa using hu)
 have hbox:=hC'.box
 rw [ns] at hbox
 have hblt:=(Array.getElem?_eq_some_iff.1 hbox).1
 obtain⟨v',w',hr,ho,hg,_,hat⟩:=run_append_own_at (P:=Tryz.prog) W p.B ST o.type p.T i0 z p.n bytes ht hi hz hn hby0 hzs hn0 _ p.k p.xs hown ⟨s.h,0,none⟩ 1 1 p.ms (by rw [hlen,Nat.one_mul]) hnews h1c (by unfold maxLen;omega) hby (Nat.le_trans O.hB hb2.size)
 refine⟨{ s with v1:=v' },v',dk.agree_sets idx d _ hdst (hidx s) (hset s _),(fun d' hd=>by rw [hdst] at hd;cases hd;exact dk.sets_on _ hsz.1 _ (ld _)),?_⟩
 have e1:(dk.sets act (ws s)).eval (.tmp s1)=p.v0:=dk.eval_on _ _ hsz.2.1 (l1 s)
 have e2:(dk.sets act (ws s)).eval (.tmp s2)=.slice (some ⟨s.h,0,none⟩) 1 1:=dk.eval_on _ _ hsz.2.2 (l2 s)
 have hr2:(execOp (dk.sets act (ws s)).eval o).run Tryz.prog W=.ok (.value v') w':=by
  unfold execOp
  simp only [hop,resolve,invoke,builtin,Sem.run_bind,Sem.run_pure,Result.andThen_ok,List.map_toArray,List.map_cons,List.map_nil,e1,e2,hr]
 rw [hr2]
 refine⟨rfl,?_⟩
 obtain⟨_,_,x3,_,_,x6,_,x8,_,x10⟩:=hx
 unfold C
 rw [more_on,more_off L x3,more_off L x6,more_off L x8,more_off L x10.symm,ll,lb,ns]
 have hbel:Below p.B p.W0 w':=hC'.bel.grown hg (Nat.le_trans O.hB hb2.size) (fun b hb=>(hown.lt b hb).1)
 have hbw:w'.heap[p.hb]?=some (.cells #[p.v0,p.r1,p.r2,p.r3] p.TB (0,0)):=(hg.block p.hb hblt (fun e=>O.ne e.symm)).trans hbox
 have hne:v'.ownBlock≠some p.hb:=by
  intro e
  rcases hat with ha | ha
  ·rw [ha] at e;exact O.ne e
  ·rw [ha] at e
   have:=Option.some.inj e
   omega
 exact⟨hbel,fun h=>(by cases h),hbw,fun _=>⟨(hC'.atb lb).1,fun h=>(by cases h)⟩,fun _=>⟨rfl,rfl,ho,hne⟩,fun h=>(by cases h),fun k hk h2 h3=>(hg.block k (Nat.lt_of_lt_of_le hk hb2.size) (fun e=>h3 e.symm)).trans (hb2.block k hk)⟩
theorem ss (O:Ok p)(hx:x.ok)(hdst:o.dst=none)(hsel:∀ cs b,o.op≠.select cs b)(hrun:∀ s (W:World) a m c,s.v1=.slice a m c->W.heap[p.hb]?=some (.cells #[p.v0,p.r1,p.r2,p.r3] p.TB (0,0))->(execOp (dk.sets act (ws s)).eval o).run Tryz.prog W=.ok .skip (W.setCell ⟨p.hb,0,none⟩ (.slice a m c)))
  (hdep:∃ e∈o.after,Region.binds .any e=true/\e.on=x.ja):gh.Step Tryz.prog (fun s=>dk.sets act (ws s)) (C p x) Q x.js o:=by
 refine gh.step_val hsel fun s L W hdp h0 hC=>⟨s,undef,gh.Agree.refl _ _,(fun d hd=>by rw [hdst] at hd;cases hd),?_⟩
 have hC':D p s (L x.jl) (L x.jm) (L x.jb) (L x.ja) (L x.js) W:=hC
 obtain⟨xp,mp,yp,zp⟩:=hdep
 have la:=hdp xp mp yp
 rw [zp] at la
 have hb:=hC'.box
 rw [h0] at hb
 obtain⟨va,vm,vc,hv1⟩:∃ a m c,s.v1=.slice a m c:=by
  rcases(hC'.ata la).2.2.1.2 with⟨h,_⟩ | ⟨g,cap,cur,h,_⟩
  ·exact⟨_,_,_,h⟩
  ·exact⟨_,_,_,h⟩
 rw [hrun s W va vm vc hv1 hb,<- hv1]
 refine⟨rfl,?_⟩
 obtain⟨_,_,_,x4,_,_,x7,_,x9,x10⟩:=hx
 unfold C
 rw [more_on,more_off L x4,more_off L x7,more_off L x9,more_off L x10,la]
 obtain⟨a1,a2,a3,a4⟩:=hC'.ata la
 refine⟨hC'.bel.setCell (p:=⟨p.hb,0,none⟩) O.hbB _,fun h=>(by cases h),bset hb _ _,fun h=>⟨(hC'.atb h).1,fun h=>(by cases h)⟩,fun _=>⟨a1,a2,?_,a4⟩,fun _=>rfl,fun k h1 h2 h3=>(Below.heap_setCell _ _ _ k h2).trans (hC'.kpt k h1 h2 h3)⟩
 refine⟨a3.1,?_⟩
 rcases a3.2 with h | ⟨g,cap,cur,e,q1,q2,q3⟩
 ·exact .inl h
 ·refine .inr ⟨g,cap,cur,e,q1,?_,q3⟩
  rw [Below.heap_setCell W ⟨p.hb,0,none⟩ _ g (fun e2=>a4 (by rw [e];show some g=some p.hb;rw [e2]))]
  exact q2
theorem done {g:G}{L:Nat->Bool}{W:World}{N:Nat}(h:C p x g L W)(h1:x.ja<N)(h2:x.js<N)(hL:∀ i,i<N->L i=true):Below p.B p.W0 W/\W.heap[p.hb]?=some (.cells #[g.v1,p.r1,p.r2,p.r3] p.TB (0,0))/\W.ownsRow p.B p.T p.n g.v1 (p.k+1) (p.xs++p.ms)/\g.v1.ownBlock≠some p.hb/\(∀ k,k<p.W0.heap.size->k≠p.hb->p.v0.ownBlock≠some k->W.heap[k]?=p.W0.heap[k]?):=by
 have h':D p g (L x.jl) (L x.jm) (L x.jb) (L x.ja) (L x.js) W:=h
 have hb:=h'.box
 rw [hL x.js h2] at hb
 obtain⟨_,_,a3,a4⟩:=h'.ata (hL x.ja h1)
 exact⟨h'.bel,hb,a3,a4,h'.kpt⟩
end
end Go.Proofs.YteoojodkkjepeaaGreat.qpap
namespace Go.Proofs.YteoojodkkjepeaaGreat.qpu
open ChangeShapes WideShapes ChangeAt RowKit fl qit qst
structure SN (W0:World)(hb:Nat)(Q:qit.Qx)(L:List flM.Ms)(w:World):Prop where
 bel:Below W0.heap.size W0 w
 hbB:W0.heap.size <= hb
 box:∃ v,w.heap[hb]?=some (.cells #[v,.string Q.nm,.int .i64 Q.nx,.slice Q.ha Q.hn Q.hc] 174 (0,0))/\w.ownsRow W0.heap.size 48 5 v L.length (L.flatMap flM.c)/\v.ownBlock≠some hb
 fits:∀ r∈L,Fits W0 W0.heap.size r
theorem take_eq {cur:Array Value}{L:List flM.Ms}(h:∀ (i:Nat) (r:flM.Ms),L[i]?=some r->∀ (j:Nat) (v:Value),(flM.c r)[j]?=some v->cur[i*5+j]?=some v)(hs:L.length*5 <= cur.size):cur.toList.take (L.length*5)=L.flatMap flM.c:=by
 apply List.ext_getElem?
 intro j
 by_cases hj:j<L.length*5
 ·rw [List.getElem?_take_of_lt hj]
  have hj2:j<(L.flatMap flM.c).length:=by rw [flat_len flM.c_len];exact hj
  obtain⟨u,hu⟩:∃ u,(L.flatMap flM.c)[j]?=some u:=⟨_,List.getElem?_eq_getElem hj2⟩
  obtain⟨i,e,r,k1,k2,k3⟩:=flat_get flM.c_len L j _ hu
  rw [hu]
  subst k3
  have:=h i e k1 r _ k2
  simpa using this
 ·rw [List.getElem?_eq_none (by rw [List.length_take];omega),List.getElem?_eq_none (by rw [flat_len flM.c_len];omega)]
theorem SN.of {W0:World}{Q:qit.Qx}{hb g cap:Nat}{L:List flM.Ms}{w:World}(h:SG W0 hb Q g cap L w):SN W0 hb Q L w:=by
 obtain⟨cur,h1,h2,h3,h4,h5⟩:=h.row
 refine⟨h.bel,h.hbB,⟨_,h.box,⟨flat_len flM.c_len L,.inr ⟨g,cap,cur,rfl,h.gB,h1,h3,h4,h2,take_eq h5 (by omega)⟩⟩,?_⟩,h.fits⟩
 intro e
 exact h.ne (Option.some.inj e)
theorem SN.sg {W0:World}{Q:qit.Qx}{hb:Nat}{L:List flM.Ms}{w:World}(h:SN W0 hb Q L w)(h0:L≠[]):∃ g cap,SG W0 hb Q g cap L w:=by
 obtain⟨v,hv,⟨_,⟨rfl,hn⟩ | ⟨g,cap,cur,rfl,h1,h2,h3,h4,h5,h6⟩⟩,hne⟩:=h.box
 ·exact absurd (List.eq_nil_of_length_eq_zero hn) h0
 ·refine⟨g,cap,h.bel,h.hbB,h1,fun e=>hne (by rw [e];rfl),hv,⟨cur,h2,h5,h3,h4,fun i r hr j v hv=>?_⟩,h.fits⟩
  have hf:=flat_at flM.c_len L i r hr j v hv
  rw [<- h6] at hf
  have hlt:=(List.getElem?_eq_some_iff.1 hf).1
  rw [List.length_take] at hlt
  rw [List.getElem?_take_of_lt (by omega)] at hf
  simpa using hf
def Kt (hb:Nat)(w w':World):Prop:=w.heap.size <= w'.heap.size/\∀ (k:Nat) (cur:Array Value) (U:TypeId),w.heap[k]?=some (.cells cur U (0,0))->U≠48->k≠hb->w'.heap[k]?=w.heap[k]?
theorem Kt.trans {hb:Nat}{a b c:World}(h1:Kt hb a b)(h2:Kt hb b c):Kt hb a c:=⟨Nat.le_trans h1.1 h2.1,fun k cur U hk hU hne=>by
 have e1:=h1.2 k cur U hk hU hne
 rw [h2.2 k cur U (e1.trans hk) hU hne,e1]⟩
theorem Kt.of {hb:Nat}{a b:World}(h:Below a.heap.size a b):Kt hb a b:=⟨h.size,fun k cur U hk _ _=>h.block k (Array.getElem?_eq_some_iff.1 hk).1⟩
theorem Kt.kp {hb g cap:Nat}{L:List flM.Ms}{a b:World}(h:Kp g a b)(hr:HR a g cap L):Kt hb a b:=⟨h.size,fun k cur U hk hU _=>h.block k (Array.getElem?_eq_some_iff.1 hk).1 (by
 rintro rfl
 obtain⟨cur',h1,_⟩:=hr
 rw [hk] at h1
 simp at h1
 exact hU h1.2)⟩
theorem infoR:(Tryz.prog.info? 48).map (fun i=>(i.zero,i.size,i.bytes))=some (some (.agg #[.int .i64 0,.string ByteArray.empty,.string ByteArray.empty,.string ByteArray.empty,.bool false]),5,64):=by kernel_rfl
def J0:qpap.J:=⟨3,4,5,6,8⟩
theorem J0_ok:J0.ok:=by unfold qpap.J.ok J0;decide
def ws (hb n:Nat)(v:Value)(r:flM.Ms)(g:qpap.G):List (Nat × Value) :=
 [(12,.pointer (some ⟨hb,0,none⟩)),(13,.pointer (some ⟨hb,0,none⟩)),(14,.pointer (some ⟨hb,0,none⟩)),(15,v),(16,.agg #[.int .i64 r.q,.string r.x,.string r.k,.string r.b,.bool r.a]),(17,.slice (some ⟨g.h,0,none⟩) 1 1),(18,g.v1),(19,.pointer (some ⟨hb,0,none⟩))]
theorem push_m (W0:World)(Q:qit.Qx)(hb:Nat)(L:List flM.Ms)(r:flM.Ms)(w:World)(hS:SN W0 hb Q L w)(hr:Fits W0 W0.heap.size r)(hl:L.length <= 900) :
  Calls Tryz.prog 237 #[.pointer (some ⟨hb,0,none⟩),.iface 48 (.agg #[.int .i64 r.q,.string r.x,.string r.k,.string r.b,.bool r.a])] w fun e w'=>e=.returned (.tuple #[])/\SN W0 hb Q (L++[r]) w'/\Kt hb w w':=by
 obtain⟨i0,hi,hz0,hz1,hz2⟩:=info_parts infoR
 obtain⟨v,hv,hown,hne⟩:=hS.box
 have hlt:=(Array.getElem?_eq_some_iff.1 hv).1
 have hsz:=hS.bel.size
 have c0:w.cell? ⟨hb,0,none⟩=some v:=bcell hv rfl
 have HV:Hid (w.heap[hb]?=some (.cells #[v,.string Q.nm,.int .i64 Q.nx,.slice Q.ha Q.hn Q.hc] 174 (0,0))):=hv
 have HS:Hid (SN W0 hb Q L w):=hS
 have HRF:Hid (Fits W0 W0.heap.size r):=hr
 have hta:∀ W:World,(Instr.typeAssert (.iface 48 (.agg #[.int .i64 r.q,.string r.x,.string r.k,.string r.b,.bool r.a])) 20 48 true).run Tryz.prog W=.ok (.tuple #[.agg #[.int .i64 r.q,.string r.x,.string r.k,.string r.b,.bool r.a],.bool true]) W:=fun W=>by kernel_rfl
 have hal:=fl.bl w (.cells #[.int .i64 r.q,.string r.x,.string r.k,.string r.b,.bool r.a] 48)
 have hA:=bnew w #[.int .i64 r.q,.string r.x,.string r.k,.string r.b,.bool r.a] 48
 obtain⟨X,hX⟩:∃ X,w.alloc (.cells #[.int .i64 r.q,.string r.x,.string r.k,.string r.b,.bool r.a] 48)=X:=⟨_,rfl⟩
 rw [hX] at hal hA
 have hXl:=(Array.getElem?_eq_some_iff.1 hA).1
 have HA:Hid (X.heap[w.heap.size]?=some (.cells #[.int .i64 r.q,.string r.x,.string r.k,.string r.b,.bool r.a] 48 (0,0))):=hA
 have O:qpap.Ok ⟨X,W0.heap.size,hb,174,48,5,v,L.length,L.flatMap flM.c,flM.c r,.string Q.nm,.int .i64 Q.nx,.slice Q.ha Q.hn Q.hc⟩:=⟨Nat.le_trans hsz hal.size,hS.hbB,bstay hv hal hlt,hown.kept (row:=none) ⟨hal.os,hal.tape,hal.output,hal.size,fun i hi _=>hal.block i hi⟩ (by
  cases hv:v.ownBlock with
  | none=>exact .inl rfl
  | some g=>right;simp),hne⟩
 have HO:Hid (qpap.Ok ⟨X,W0.heap.size,hb,174,48,5,v,L.length,L.flatMap flM.c,flM.c r,.string Q.nm,.int .i64 Q.nx,.slice Q.ha Q.hn Q.hc⟩):=O
 clear hv hS hr hA O hown hne
 go_enter Tryz.func237,Tryz.ntmps237
 go_wp2
 clear hX
 refine dk.region_gsets (ws hb w.heap.size v r) [12,13,14,15,16,17,18,19] (qpap.C ⟨X,W0.heap.size,hb,174,48,5,v,L.length,L.flatMap flM.c,flM.c r,.string Q.nm,.int .i64 Q.nx,.slice Q.ha Q.hn Q.hc⟩ J0) ⟨0,.slice none 0 0⟩ (by kernel_rfl) (by kernel_rfl) (fun _=>rfl) (by kernel_rfl) (qpap.start HO.out _ _) ?each ?fin
 case each =>
  refine⟨qpap.quiet (by decide) (by simp) (.pointer (some ⟨hb,0,none⟩)) (by rintro s _ ⟨⟩;exact dk.sets_on _ (by simp) _ rfl) (fun s W=>by simp [execOp,go_sem,Act.eval,dk.sets_get,ws,List.lookup]),?_⟩
  refine⟨qpap.quiet (by decide) (by simp) (.pointer (some ⟨hb,0,none⟩)) (by rintro s _ ⟨⟩;exact dk.sets_on _ (by simp) _ rfl) (fun s W=>by simp [execOp,go_sem,Act.eval,dk.sets_get,ws,List.lookup]),?_⟩
  refine⟨qpap.quiet (by decide) (by simp) (.pointer (some ⟨hb,0,none⟩)) (by rintro s _ ⟨⟩;exact dk.sets_on _ (by simp) _ rfl) (fun s W=>by simp [execOp,go_sem,Act.eval,dk.sets_get,ws,List.lookup]),?_⟩
  refine⟨qpap.sl (x:=J0) (d:=15) J0_ok (by simp) rfl (fun s=>dk.sets_on _ (by simp) _ rfl) (fun s W h=>by have c:W.cell? ⟨hb,0,none⟩=some v:=bcell h rfl;simp [execOp,go_sem,Act.eval,dk.sets_get,ws,List.lookup,c]),?_⟩
  refine⟨qpap.sm (x:=J0) (d:=16) J0_ok (.agg #[.int .i64 r.q,.string r.x,.string r.k,.string r.b,.bool r.a]) (by simp) rfl (fun s=>dk.sets_on _ (by simp) _ rfl) (fun s W h=>by have hh:=bstay HA.out h hXl;have d0:W.cell? ⟨w.heap.size,0,none⟩=some (.int .i64 r.q):=bcell hh rfl;have d1:W.cell? ⟨w.heap.size,1,none⟩=some (.string r.x):=bcell hh rfl;have d2:W.cell? ⟨w.heap.size,2,none⟩=some (.string r.k):=bcell hh rfl;have d3:W.cell? ⟨w.heap.size,3,none⟩=some (.string r.b):=bcell hh rfl;have d4:W.cell? ⟨w.heap.size,4,none⟩=some (.bool r.a):=bcell hh rfl;simp [execOp,go_sem,Act.eval,dk.sets_get,ws,List.lookup,d0,d1,d2,d3,d4]),?_⟩
  refine⟨qpap.sb (x:=J0) (d:=17) (idx:=5) HO.out J0_ok (by simp) rfl (by simp) (fun g=>rfl) (fun g=>rfl) (fun g e=>rfl) (fun s W=>by simp [execOp,go_sem,Act.eval,dk.sets_get,ws,List.lookup,flM.c]) ⟨⟨4,.data⟩,by simp,rfl,rfl⟩,?_⟩
  refine⟨qpap.sa (x:=J0) (d:=18) (s1:=15) (s2:=17) (idx:=6) HO.out J0_ok Tryz.underlying172 hi hz0 hz1 hz2 rfl (by show 0<5;decide) rfl rfl ⟨by simp,by simp,by simp⟩ (fun g=>rfl) (fun g=>rfl) (fun g=>rfl) (fun g=>rfl) (fun g v=>rfl) rfl (by intro u hu;simp [flM.c] at hu;rcases hu with rfl | rfl | rfl | rfl | rfl <;> rfl) (by show L.length <= 1048576;omega) (by show (L.length+1)*64 <= 140737488355328;omega) ⟨⟨3,.data⟩,by simp,rfl,rfl⟩ ⟨⟨5,.data⟩,by simp,rfl,rfl⟩,?_⟩
  refine⟨qpap.quiet (by decide) (by simp) (.pointer (some ⟨hb,0,none⟩)) (by rintro s _ ⟨⟩;exact dk.sets_on _ (by simp) _ rfl) (fun s W=>by simp [execOp,go_sem,Act.eval,dk.sets_get,ws,List.lookup]),?_⟩
  exact⟨qpap.ss (x:=J0) HO.out J0_ok rfl (by simp) (fun s W a m c' hv1 h=>by have c:W.cell? ⟨hb,0,none⟩=some v:=bcell h rfl;have f:W.frozen? ⟨hb,0,none⟩=false:=bfree h 0;simp [execOp,go_sem,Act.eval,dk.sets_get,ws,List.lookup,c,f,hv1]) ⟨⟨6,.data⟩,by simp,rfl,rfl⟩,trivial⟩
 case fin =>
  intro s K W hK hC
  obtain⟨d1,d2,d3,d4,d5⟩:=qpap.done hC (N:=9) (by decide) (by decide) hK
  have hsn:Hid (SN W0 hb Q (L++[r]) W):=by
   refine⟨HS.out.bel.trans ((hal.mono hsz).trans d1),HS.out.hbB,⟨s.v1,d2,?_,d4⟩,fun q hq=>?_⟩
   ·rw [List.length_append,List.flatMap_append]
    simpa using d3
   ·rcases List.mem_append.1 hq with h | h
    ·exact HS.out.fits q h
    ·simp at h;subst h;exact HRF.out
  have hkt:Hid (Kt hb w W):=by
   refine⟨Nat.le_trans hal.size (by have:=d1.size;exact this),fun k cur U hk hU hne2=>?_⟩
   have hkl:=(Array.getElem?_eq_some_iff.1 hk).1
   have e1:=hal.block k hkl
   refine(d5 k (Nat.lt_of_lt_of_le hkl hal.size) hne2 ?_).trans e1
   intro e
   rcases HO.out.own.2 with⟨h9,_⟩ | ⟨g9,cap9,cur9,h9,_,h8,_⟩
   ·rw [show (v:Value)=.slice none 0 0 from h9] at e;simp [Value.ownBlock] at e
   ·rw [show (v:Value)=.slice (some ⟨g9,0,none⟩) L.length cap9 from h9] at e
    have e9:g9=k:=by simpa [Value.ownBlock] using e
    rw [e9] at h8
    have h8:X.heap[k]?=some (.cells cur9 48 (0,0)):=h8
    rw [e1,hk] at h8
    simp at h8
    exact hU h8.2
  clear hC hK d1 d2 d3 d4 d5
  simp only [dk.sets,ws]
  go_wp2
  go_end0
  exact⟨rfl,hsn.out,hkt.out⟩
end Go.Proofs.YteoojodkkjepeaaGreat.qpu
