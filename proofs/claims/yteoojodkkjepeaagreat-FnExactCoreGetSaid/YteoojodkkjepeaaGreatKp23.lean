/- CoreAt, CoreOkSpec. -/
import Derived.Test.YteoojodkkjepeaaGreatKp22
set_option maxRecDepth 100000
set_option maxHeartbeats 8000000
set_option linter.unusedVariables false
namespace Go.Proofs.YteoojodkkjepeaaGreat.qu
open ChangeShapes WideShapes ChangeAt RowKit rc rr ro fl
theorem spec_at (l:List E)(a xa ya za:Option Addr)(cap xn xc yn yc zn zc:Nat)(name:ByteArray)(w:World)(hl:l.length <= 1048576)(hE:Row c 4 w w.heap.size a l) :
  Calls Tryz.prog 52 #[.agg #[.slice xa xn xc,.slice ya yn yc,.slice a l.length cap,.slice za zn zc],.string name] w fun r w'=>r=.returned (.int .i64 (place l name))/\Below w.heap.size w w':=by
 have hb:=fl.bl w (.cells #[.slice xa xn xc,.slice ya yn yc,.slice a l.length cap,.slice za zn zc] 39)
 have hA:=bnew w #[.slice xa xn xc,.slice ya yn yc,.slice a l.length cap,.slice za zn zc] 39
 have c0:(w.alloc (.cells #[.slice xa xn xc,.slice ya yn yc,.slice a l.length cap,.slice za zn zc] 39)).cell? ⟨w.heap.size,2,none⟩=some (.slice a l.length cap):=bcell hA rfl
 have hE2:=hE.inn hb
 obtain⟨W,hW⟩:∃ W,w.alloc (.cells #[.slice xa xn xc,.slice ya yn yc,.slice a l.length cap,.slice za zn zc] 39)=W:=⟨_,rfl⟩
 rw [hW] at hb hE2 c0
 clear hE hA
 rcases hE2 with rfl | ⟨b,off,rfl,hlt,hc⟩
 ·go_enter Tryz.func52,Tryz.ntmps52
  go_wp2
  refine wp_loop_rounds 1 ?_
  rw [rounds_succ]
  go_wp2
  go_ret
  exact⟨rfl,(Below.refl _ _).alloc (Nat.le_refl _) _⟩
 ·have HC:Hid (∀ (i:Nat) (e:E),l[i]?=some e->∀ (j:Nat) (v:Value),(c e)[j]?=some v->W.cell? ⟨b,off+i*4+j,none⟩=some v):=hc
  clear hc
  go_enter Tryz.func52,Tryz.ntmps52
  go_wp2
  clear hW
  go_loop [5] (fun v=>∃ k:Nat,k <= l.length/\v=.int .i64 k/\Hid (∀ (j:Nat) f,j<k->l[j]?=some f->f.nm≠name)) (fun v=>l.length - (intOf v).toNat)
  case atStart=>exact⟨0,Nat.zero_le _,rfl,fun j f hj=>by omega⟩
  case round =>
   obtain⟨k,hk,rfl,hno⟩:=hrel
   by_cases hkl:k<l.length
   ·have HG:Hid (l[k]?=some l[k]):=List.getElem?_eq_getElem hkl
    obtain⟨⟨nm,nx,ra,rc,rs,ha,hc,hs⟩,he⟩:∃ e,l[k]=e:=⟨_,rfl⟩
    rw [he] at HG
    have cn:W.cell? ⟨b,off+k*4,none⟩=some (.string nm):=by have:=HC.out k _ HG.out 0 _ rfl;simpa using this
    clear he
    by_cases hen:nm=name
    ·subst hen
     have hfin:=place_at hno.out HG.out rfl
     go_wp2
     go_ret
     exact⟨rfl,hb⟩
    ·have n1:=ne_of hen
     have n2:¬ nm.toList=name.toList:=by simpa using n1
     go_wp2
     go_round
     case rel =>
      refine⟨k+1,by omega,by go_num,fun j f hj hf=>?_⟩
      by_cases e:j=k
      ·subst e
       rw [HG.out] at hf
       cases hf
       exact hen
      ·exact hno.out j f (by omega) hf
     case measure=>simp [intOf];omega
   ·obtain rfl:k=l.length:=by omega
    have hfin:=place_none (l:=l) (name:=name) (fun j f hf=>hno.out j f (List.getElem?_eq_some_iff.1 hf).1 hf)
    go_wp2
    go_ret
    exact⟨rfl,hb⟩
end Go.Proofs.YteoojodkkjepeaaGreat.qu
namespace Go.Proofs.YteoojodkkjepeaaGreat.su
open ChangeShapes WideShapes ChangeAt RowKit rc rr ro fl
theorem spec_at (l:List E)(a xa ya za:Option Addr)(cap xn xc yn yc zn zc:Nat)(name:ByteArray)(w:World)(hl:l.length <= 1048576)(hE:Row c 5 w w.heap.size a l) :
  Calls Tryz.prog 34 #[.agg #[.slice xa xn xc,.slice ya yn yc,.slice za zn zc,.slice a l.length cap],.string name] w fun r w'=>r=.returned (.int .i64 (place l name))/\Below w.heap.size w w':=by
 have hb:=fl.bl w (.cells #[.slice xa xn xc,.slice ya yn yc,.slice za zn zc,.slice a l.length cap] 39)
 have hA:=bnew w #[.slice xa xn xc,.slice ya yn yc,.slice za zn zc,.slice a l.length cap] 39
 have c0:(w.alloc (.cells #[.slice xa xn xc,.slice ya yn yc,.slice za zn zc,.slice a l.length cap] 39)).cell? ⟨w.heap.size,3,none⟩=some (.slice a l.length cap):=bcell hA rfl
 have hE2:=hE.inn hb
 obtain⟨W,hW⟩:∃ W,w.alloc (.cells #[.slice xa xn xc,.slice ya yn yc,.slice za zn zc,.slice a l.length cap] 39)=W:=⟨_,rfl⟩
 rw [hW] at hb hE2 c0
 clear hE hA
 rcases hE2 with rfl | ⟨b,off,rfl,hlt,hc⟩
 ·go_enter Tryz.func34,Tryz.ntmps34
  go_wp2
  refine wp_loop_rounds 1 ?_
  rw [rounds_succ]
  go_wp2
  go_ret
  exact⟨rfl,(Below.refl _ _).alloc (Nat.le_refl _) _⟩
 ·have HC:Hid (∀ (i:Nat) (e:E),l[i]?=some e->∀ (j:Nat) (v:Value),(c e)[j]?=some v->W.cell? ⟨b,off+i*5+j,none⟩=some v):=hc
  clear hc
  go_enter Tryz.func34,Tryz.ntmps34
  go_wp2
  clear hW
  go_loop [5] (fun v=>∃ k:Nat,k <= l.length/\v=.int .i64 k/\Hid (∀ (j:Nat) f,j<k->l[j]?=some f->f.nm≠name)) (fun v=>l.length - (intOf v).toNat)
  case atStart=>exact⟨0,Nat.zero_le _,rfl,fun j f hj=>by omega⟩
  case round =>
   obtain⟨k,hk,rfl,hno⟩:=hrel
   by_cases hkl:k<l.length
   ·have HG:Hid (l[k]?=some l[k]):=List.getElem?_eq_getElem hkl
    obtain⟨⟨nm,lo,nx,ra,rc,rs,ha,hc,hs⟩,he⟩:∃ e,l[k]=e:=⟨_,rfl⟩
    rw [he] at HG
    have cn:W.cell? ⟨b,off+k*5,none⟩=some (.string nm):=by have:=HC.out k _ HG.out 0 _ rfl;simpa using this
    clear he
    by_cases hen:nm=name
    ·subst hen
     have hfin:=place_at hno.out HG.out rfl
     go_wp2
     go_ret
     exact⟨rfl,hb⟩
    ·have n1:=ne_of hen
     have n2:¬ nm.toList=name.toList:=by simpa using n1
     go_wp2
     go_round
     case rel =>
      refine⟨k+1,by omega,by go_num,fun j f hj hf=>?_⟩
      by_cases e:j=k
      ·subst e
       rw [HG.out] at hf
       cases hf
       exact hen
      ·exact hno.out j f (by omega) hf
     case measure=>simp [intOf];omega
   ·obtain rfl:k=l.length:=by omega
    have hfin:=place_none (l:=l) (name:=name) (fun j f hf=>hno.out j f (List.getElem?_eq_some_iff.1 hf).1 hf)
    go_wp2
    go_ret
    exact⟨rfl,hb⟩
end Go.Proofs.YteoojodkkjepeaaGreat.su
namespace Go.Proofs.YteoojodkkjepeaaGreat.cos
open ChangeShapes WideShapes ChangeAt RowKit rc rr ro fl co
theorem spec_ok (es:List Ex)(bs:List Bi)(qs:List qu.E)(ts:List su.E)(ea ba qa ta:Option Addr)(ec bc qc tc:Nat)(w:World)(hql:qs.length <= 1048576)(htl:ts.length <= 1048576)(hQ:Row qu.c 4 w w.heap.size qa qs)(hT:Row su.c 5 w w.heap.size ta ts)(kq:(∀ r∈qs,∀ V,Below w.heap.size w V->Calls Tryz.prog 33 #[.agg #[.string r.nm,.int .i64 r.nx,.slice r.ra r.rs.length r.rc,.slice r.ha r.hs.length r.hc]] V fun e w'=>e=.returned (.bool (qsp.okB r.nm r.nx r.rs r.hs))/\Below V.heap.size V w'))(kt:(∀ r∈ts,∀ V,Below w.heap.size w V->Calls Tryz.prog 35 #[.agg #[.string r.nm,.int .i64 r.lo,.int .i64 r.nx,.slice r.ra r.rs.length r.rc,.slice r.ha r.hs.length r.hc]] V fun e w'=>e=.returned (.bool (st.okB r.nm r.lo r.nx r.rs r.hs))/\Below V.heap.size V w'))(kr:(∀ V,Below w.heap.size w V->Calls Tryz.prog 36 #[.agg #[.slice ea es.length ec,.slice ba bs.length bc]] V fun e w'=>e=.returned (.bool (okR es bs))/\Below V.heap.size V w')) :
  Calls Tryz.prog 11 #[.agg #[.slice ea es.length ec,.slice ba bs.length bc,.slice qa qs.length qc,.slice ta ts.length tc]] w fun e w'=>e=.returned (.bool (okC es bs qs ts))/\Below w.heap.size w w':=by
 have hb:=fl.bl w (.cells #[.slice ea es.length ec,.slice ba bs.length bc,.slice qa qs.length qc,.slice ta ts.length tc] 39)
 have hA:=bnew w #[.slice ea es.length ec,.slice ba bs.length bc,.slice qa qs.length qc,.slice ta ts.length tc] 39
 obtain⟨W,hW⟩:∃ W,w.alloc (.cells #[.slice ea es.length ec,.slice ba bs.length bc,.slice qa qs.length qc,.slice ta ts.length tc] 39)=W:=⟨_,rfl⟩
 have hsW:W.heap.size=w.heap.size+1:=by rw [<- hW];simp
 rw [hW] at hb hA
 have HQ:Hid (Row qu.c 4 W W.heap.size qa qs):=hQ.inn hb
 have HT:Hid (Row su.c 5 W W.heap.size ta ts):=hT.inn hb
 have HA:Hid (W.heap[w.heap.size]?=some (.cells #[.slice ea es.length ec,.slice ba bs.length bc,.slice qa qs.length qc,.slice ta ts.length tc] 39 (0,0))):=hA
 have BX:Hid (∀ w',Below W.heap.size W w'->w'.cell? ⟨w.heap.size,0,none⟩=some (.slice ea es.length ec)/\w'.cell? ⟨w.heap.size,1,none⟩=some (.slice ba bs.length bc)/\w'.cell? ⟨w.heap.size,2,none⟩=some (.slice qa qs.length qc)/\w'.cell? ⟨w.heap.size,3,none⟩=some (.slice ta ts.length tc)):=fun w' h=>by
  have h1:=bstay HA.out h (by omega)
  exact⟨bcell h1 rfl,bcell h1 rfl,bcell h1 rfl,bcell h1 rfl⟩
 have KQ:Hid (∀ r∈qs,∀ V,Below w.heap.size w V->Calls Tryz.prog 33 #[.agg #[.string r.nm,.int .i64 r.nx,.slice r.ra r.rs.length r.rc,.slice r.ha r.hs.length r.hc]] V fun e w'=>e=.returned (.bool (qsp.okB r.nm r.nx r.rs r.hs))/\Below V.heap.size V w'):=kq
 have KT:Hid (∀ r∈ts,∀ V,Below w.heap.size w V->Calls Tryz.prog 35 #[.agg #[.string r.nm,.int .i64 r.lo,.int .i64 r.nx,.slice r.ra r.rs.length r.rc,.slice r.ha r.hs.length r.hc]] V fun e w'=>e=.returned (.bool (st.okB r.nm r.lo r.nx r.rs r.hs))/\Below V.heap.size V w'):=kt
 have KR:Hid (∀ V,Below w.heap.size w V->Calls Tryz.prog 36 #[.agg #[.slice ea es.length ec,.slice ba bs.length bc]] V fun e w'=>e=.returned (.bool (okR es bs))/\Below V.heap.size V w'):=kr
 clear hQ hT hA kq kt kr
 go_enter Tryz.func11,Tryz.ntmps11
 go_wp2
 clear hW
 go_loopw [3] (fun v wr=>∃ k:Nat,k <= qs.length/\v=.int .i64 k/\Hid (GoodQ qs ts k)/\Hid (Below W.heap.size W wr)) (fun v _=>qs.length - (intOf v).toNat)
 case atStart=>exact⟨0,Nat.zero_le _,rfl,⟨fun i e h=>by omega,fun i a b h=>by omega⟩,Below.refl _ _⟩
 case round =>
  obtain⟨k,hk,rfl,hgood,hbel⟩:=hrel
  obtain⟨c0,c1,c2,c3⟩:=BX.out wr hbel.out
  have hbsz:=hbel.out.size
  by_cases hkl:k<qs.length
  ·have HG:Hid (qs[k]?=some qs[k]):=List.getElem?_eq_getElem hkl
   have hmem:qs[k]∈qs:=List.getElem_mem hkl
   obtain⟨⟨nm,nx,ra,rc,rs,ha,hc,hs⟩,he⟩:∃ e,qs[k]=e:=⟨_,rfl⟩
   rw [he] at HG hmem
   have hRw:=HQ.out.inn hbel.out
   rcases hRw with h0 | ⟨b,off,hra,hlt,hcell⟩
   ·rw [h0] at hkl;simp at hkl
   subst hra
   have HC:Hid (∀ (i:Nat) (e:qu.E),qs[i]?=some e->∀ (j:Nat) (v:Value),(qu.c e)[j]?=some v->wr.cell? ⟨b,off+i*4+j,none⟩=some v):=hcell
   have hxl:w.heap.size<wr.heap.size:=by omega
   have hNb:∀ N:qi.Cls wr,Below w.heap.size w N.x:=fun N=>hb.trans ((hbel.out.trans (Below.mono N.h hbsz)).mono hb.size)
   have z0:=fun N:qi.Cls wr=>(Below.cell N.h (p:=⟨w.heap.size,0,none⟩) hxl).trans c0
   have z1:=fun N:qi.Cls wr=>(Below.cell N.h (p:=⟨w.heap.size,1,none⟩) hxl).trans c1
   have z2:=fun N:qi.Cls wr=>(Below.cell N.h (p:=⟨w.heap.size,2,none⟩) hxl).trans c2
   have z3:=fun N:qi.Cls wr=>(Below.cell N.h (p:=⟨w.heap.size,3,none⟩) hxl).trans c3
   have m0:=fun N:qi.Cls wr=>(Below.cell N.h (p:=⟨b,off+k*4,none⟩) hlt).trans (HC.out k _ HG.out 0 _ rfl)
   have m1:=fun N:qi.Cls wr=>(Below.cell N.h (p:=⟨b,off+k*4+1,none⟩) hlt).trans (HC.out k _ HG.out 1 _ rfl)
   have m2:=fun N:qi.Cls wr=>(Below.cell N.h (p:=⟨b,off+k*4+2,none⟩) hlt).trans (HC.out k _ HG.out 2 _ rfl)
   have m3:=fun N:qi.Cls wr=>(Below.cell N.h (p:=⟨b,off+k*4+3,none⟩) hlt).trans (HC.out k _ HG.out 3 _ rfl)
   have i3:(k:Int)<(qs.length:Int):=by omega
   obtain⟨ob,hob⟩:∃ ob,qsp.okB nm nx rs hs=ob:=⟨_,rfl⟩
   have k1:∀ N:qi.Cls wr,Calls Tryz.prog 33 #[.agg #[.string nm,.int .i64 nx,.slice ra rs.length rc,.slice ha hs.length hc]] N.x fun e w'=>e=.returned (.bool ob)/\qi.T wr w':=fun N=>by
    have h:=KQ.out ⟨nm,nx,ra,rc,rs,ha,hc,hs⟩ hmem N.x (hNb N)
    rw [<- hob]
    exact h.mono fun e w' ⟨h1,h2⟩=>⟨h1,N.h.next h2⟩
   obtain⟨pl,hpl⟩:∃ pl,su.place ts nm=pl:=⟨_,rfl⟩
   have HPL:Hid (su.place ts nm=pl):=hpl
   have k2:∀ N:qi.Cls wr,Calls Tryz.prog 34 #[.agg #[.slice ea es.length ec,.slice ba bs.length bc,.slice (some ⟨b,off,none⟩) qs.length qc,.slice ta ts.length tc],.string nm] N.x fun e w'=>e=.returned (.int .i64 pl)/\qi.T wr w':=fun N=>by
    have h:=su.spec_at ts ta ea ba (some ⟨b,off,none⟩) tc es.length ec bs.length bc qs.length qc nm N.x htl (HT.out.inn (hbel.out.trans (Below.mono N.h hbsz)))
    rw [<- hpl]
    exact h.mono fun e w' ⟨h1,h2⟩=>⟨h1,N.h.next h2⟩
   have HOB:Hid (qsp.okB nm nx rs hs=ob):=hob
   clear he hcell hob hNb hmem hpl
   cases ob with
   | false =>
    have hbad:Hid (¬ OkC es bs qs ts):=fun h=>badQ_ok HG.out HOB.out h.q
    go_wp2
    refine qi.region_in wr (qi.T.refl wr) (by kernel_rfl) (by kernel_rfl) ?_
    repeat (go_big_quiet_step (first | (go_at_call 33;refine(k1 _).mono ?_;rintro e wx ⟨rfl,hTx⟩;exact⟨rfl,⟨wx,hTx⟩,rfl⟩) | (go_at_call 34;refine(k2 _).mono ?_;rintro e wx ⟨rfl,hTx⟩;exact⟨rfl,⟨wx,hTx⟩,rfl⟩)))
    refine wpQuiet_nil ?_
    rintro _ ⟨N,rfl⟩
    have hN:=N.h
    generalize N.x=wN at hN ⊢
    clear N k1 k2 z0 z1 z2 z3 m0 m1 m2 m3
    have hbN:Below W.heap.size W wN:=hbel.out.trans (Below.mono hN hbsz)
    go_wp2
    go_ret
    exact⟨by rw [okC_no (fun h=>hbad.out h)];rfl,hb.trans (hbN.mono hb.size)⟩
   | true =>
    by_cases hk0:k=0
    ·have h30:Hid (∀ p,k≠0->qs[k - 1]?=some p->lt p.nm nm=true):=fun p h=>absurd hk0 h
     have hk0d:decide ((0:Int)<(k:Int))=false:=by simp;omega
     have hk0e:decide (0<k)=false:=by simp;omega
     clear hk0
     by_cases hp:0 <= pl
     ·have hpd:decide (0 <= pl)=true:=decide_eq_true hp
      have hbad:Hid (¬ OkC es bs qs ts):=fun h=>badQ_at HG.out (by show 0 <= su.place ts nm;rw [HPL.out];exact hp) h.q
      go_wp2
      refine qi.region_in wr (qi.T.refl wr) (by kernel_rfl) (by kernel_rfl) ?_
      repeat (go_big_quiet_step (first | (go_at_call 33;refine(k1 _).mono ?_;rintro e wx ⟨rfl,hTx⟩;exact⟨rfl,⟨wx,hTx⟩,rfl⟩) | (go_at_call 34;refine(k2 _).mono ?_;rintro e wx ⟨rfl,hTx⟩;exact⟨rfl,⟨wx,hTx⟩,rfl⟩)))
      refine wpQuiet_nil ?_
      rintro _ ⟨N,rfl⟩
      have hN:=N.h
      generalize N.x=wN at hN ⊢
      clear N k1 k2 z0 z1 z2 z3 m0 m1 m2 m3
      have hbN:Below W.heap.size W wN:=hbel.out.trans (Below.mono hN hbsz)
      go_wp2
      go_ret
      exact⟨by rw [okC_no (fun h=>hbad.out h)];rfl,hb.trans (hbN.mono hb.size)⟩
     ·have hpd:decide (0 <= pl)=false:=decide_eq_false hp
      have hnext:Hid (GoodQ qs ts (k+1)):=goodQ_next hgood.out HG.out HOB.out (by show ¬ 0 <= su.place ts nm;rw [HPL.out];exact hp) h30.out
      go_wp2
      refine qi.region_in wr (qi.T.refl wr) (by kernel_rfl) (by kernel_rfl) ?_
      repeat (go_big_quiet_step (first | (go_at_call 33;refine(k1 _).mono ?_;rintro e wx ⟨rfl,hTx⟩;exact⟨rfl,⟨wx,hTx⟩,rfl⟩) | (go_at_call 34;refine(k2 _).mono ?_;rintro e wx ⟨rfl,hTx⟩;exact⟨rfl,⟨wx,hTx⟩,rfl⟩)))
      refine wpQuiet_nil ?_
      rintro _ ⟨N,rfl⟩
      have hN:=N.h
      generalize N.x=wN at hN ⊢
      clear N k1 k2 z0 z1 z2 z3 m0 m1 m2 m3
      have hbN:Below W.heap.size W wN:=hbel.out.trans (Below.mono hN hbsz)
      go_wp2
      go_roundw
      case rel=>exact⟨k+1,by omega,by go_num,hnext,hbN⟩
      case measure=>simp [intOf];omega
    ·obtain⟨m,rfl⟩:∃ m,k=m+1:=⟨k - 1,by omega⟩
     have HG1:Hid (qs[m]?=some qs[m]):=List.getElem?_eq_getElem (by omega)
     obtain⟨⟨nm',nx',ra',rc',rs',ha',hc',hs'⟩,hpe⟩:∃ e,qs[m]=e:=⟨_,rfl⟩
     rw [hpe] at HG1
     have P0:=fun N:qi.Cls wr=>(Below.cell N.h (p:=⟨b,off+m*4,none⟩) hlt).trans (HC.out m _ HG1.out 0 _ rfl)
     have i1:IntKind.i64.wrap (m:Int)=(m:Int):=by rw [IntKind.wrap_i64];omega
     have i2:(m:Int)<(qs.length:Int):=by omega
     clear hpe
     cases hq:(Op.bytesLess nm.toList nm'.toList || nm.toList == nm'.toList) with
     | true =>
      have hbad:Hid (¬ OkC es bs qs ts):=fun h=>badQ_up HG1.out HG.out (by
       cases h:lt nm' nm with
       | false=>rfl
       | true=>have h2:=above.2 h;have h3:(lt nm nm' || nm.toList == nm'.toList)=true:=hq;rw [h2] at h3;cases h3) h.q
      go_wp2
      refine qi.region_in wr (qi.T.refl wr) (by kernel_rfl) (by kernel_rfl) ?_
      repeat (go_big_quiet_step (first | (go_at_call 33;refine(k1 _).mono ?_;rintro e wx ⟨rfl,hTx⟩;exact⟨rfl,⟨wx,hTx⟩,rfl⟩) | (go_at_call 34;refine(k2 _).mono ?_;rintro e wx ⟨rfl,hTx⟩;exact⟨rfl,⟨wx,hTx⟩,rfl⟩)))
      refine wpQuiet_nil ?_
      rintro _ ⟨N,rfl⟩
      have hN:=N.h
      generalize N.x=wN at hN ⊢
      clear N k1 k2 z0 z1 z2 z3 m0 m1 m2 m3 P0
      have hbN:Below W.heap.size W wN:=hbel.out.trans (Below.mono hN hbsz)
      go_wp2
      go_ret
      exact⟨by rw [okC_no (fun h=>hbad.out h)];rfl,hb.trans (hbN.mono hb.size)⟩
     | false =>
      have h3:Hid (∀ p,m+1≠0->qs[m+1 - 1]?=some p->lt p.nm nm=true):=fun p _ hp=>by
       have hp2:qs[m]?=some p:=hp
       rw [HG1.out] at hp2
       cases hp2
       exact above.1 hq
      by_cases hp:0 <= pl
      ·have hpd:decide (0 <= pl)=true:=decide_eq_true hp
       have hbad:Hid (¬ OkC es bs qs ts):=fun h=>badQ_at HG.out (by show 0 <= su.place ts nm;rw [HPL.out];exact hp) h.q
       go_wp2
       refine qi.region_in wr (qi.T.refl wr) (by kernel_rfl) (by kernel_rfl) ?_
       repeat (go_big_quiet_step (first | (go_at_call 33;refine(k1 _).mono ?_;rintro e wx ⟨rfl,hTx⟩;exact⟨rfl,⟨wx,hTx⟩,rfl⟩) | (go_at_call 34;refine(k2 _).mono ?_;rintro e wx ⟨rfl,hTx⟩;exact⟨rfl,⟨wx,hTx⟩,rfl⟩)))
       refine wpQuiet_nil ?_
       rintro _ ⟨N,rfl⟩
       have hN:=N.h
       generalize N.x=wN at hN ⊢
       clear N k1 k2 z0 z1 z2 z3 m0 m1 m2 m3 P0
       have hbN:Below W.heap.size W wN:=hbel.out.trans (Below.mono hN hbsz)
       go_wp2
       go_ret
       exact⟨by rw [okC_no (fun h=>hbad.out h)];rfl,hb.trans (hbN.mono hb.size)⟩
      ·have hpd:decide (0 <= pl)=false:=decide_eq_false hp
       have hnext:Hid (GoodQ qs ts (m+1+1)):=goodQ_next hgood.out HG.out HOB.out (by show ¬ 0 <= su.place ts nm;rw [HPL.out];exact hp) h3.out
       go_wp2
       refine qi.region_in wr (qi.T.refl wr) (by kernel_rfl) (by kernel_rfl) ?_
       repeat (go_big_quiet_step (first | (go_at_call 33;refine(k1 _).mono ?_;rintro e wx ⟨rfl,hTx⟩;exact⟨rfl,⟨wx,hTx⟩,rfl⟩) | (go_at_call 34;refine(k2 _).mono ?_;rintro e wx ⟨rfl,hTx⟩;exact⟨rfl,⟨wx,hTx⟩,rfl⟩)))
       refine wpQuiet_nil ?_
       rintro _ ⟨N,rfl⟩
       have hN:=N.h
       generalize N.x=wN at hN ⊢
       clear N k1 k2 z0 z1 z2 z3 m0 m1 m2 m3 P0
       have hbN:Below W.heap.size W wN:=hbel.out.trans (Below.mono hN hbsz)
       go_wp2
       go_roundw
       case rel=>exact⟨m+1+1,by omega,by go_num,hnext,hbN⟩
       case measure=>simp [intOf];omega
  ·obtain rfl:k=qs.length:=by omega
   have HGQ:Hid (GoodQ qs ts qs.length):=hgood
   have HB1:Hid (Below W.heap.size W wr):=hbel
   have hs1:W.heap.size <= wr.heap.size:=hbsz
   obtain⟨w1,hw1⟩:∃ w1,wr=w1:=⟨_,rfl⟩
   subst hw1
   clear hgood hbel hbsz hk
   go_wp2
   clear c0 c1 c2 c3
   go_loopw [4] (fun v wr=>∃ k:Nat,k <= ts.length/\v=.int .i64 k/\Hid (GoodT ts k)/\Hid (Below W.heap.size W wr)) (fun v _=>ts.length - (intOf v).toNat)
   case atStart=>exact⟨0,Nat.zero_le _,rfl,⟨fun i e h=>by omega,fun i a b h=>by omega⟩,HB1⟩
   case round =>
    obtain⟨k,hk,rfl,hgood,hbel⟩:=hrel
    obtain⟨c0,c1,c2,c3⟩:=BX.out wr hbel.out
    have hbsz:=hbel.out.size
    by_cases hkl:k<ts.length
    ·have HG:Hid (ts[k]?=some ts[k]):=List.getElem?_eq_getElem hkl
     have hmem:ts[k]∈ts:=List.getElem_mem hkl
     obtain⟨⟨nm,lo,nx,ra,rc,rs,ha,hc,hs⟩,he⟩:∃ e,ts[k]=e:=⟨_,rfl⟩
     rw [he] at HG hmem
     have hRw:=HT.out.inn hbel.out
     rcases hRw with h0 | ⟨b,off,hra,hlt,hcell⟩
     ·rw [h0] at hkl;simp at hkl
     subst hra
     have HC:Hid (∀ (i:Nat) (e:su.E),ts[i]?=some e->∀ (j:Nat) (v:Value),(su.c e)[j]?=some v->wr.cell? ⟨b,off+i*5+j,none⟩=some v):=hcell
     have hxl:w.heap.size<wr.heap.size:=by omega
     have hNb:∀ N:qi.Cls wr,Below w.heap.size w N.x:=fun N=>hb.trans ((hbel.out.trans (Below.mono N.h hbsz)).mono hb.size)
     have z0:=fun N:qi.Cls wr=>(Below.cell N.h (p:=⟨w.heap.size,0,none⟩) hxl).trans c0
     have z1:=fun N:qi.Cls wr=>(Below.cell N.h (p:=⟨w.heap.size,1,none⟩) hxl).trans c1
     have z2:=fun N:qi.Cls wr=>(Below.cell N.h (p:=⟨w.heap.size,2,none⟩) hxl).trans c2
     have z3:=fun N:qi.Cls wr=>(Below.cell N.h (p:=⟨w.heap.size,3,none⟩) hxl).trans c3
     have m0:=fun N:qi.Cls wr=>(Below.cell N.h (p:=⟨b,off+k*5,none⟩) hlt).trans (HC.out k _ HG.out 0 _ rfl)
     have m1:=fun N:qi.Cls wr=>(Below.cell N.h (p:=⟨b,off+k*5+1,none⟩) hlt).trans (HC.out k _ HG.out 1 _ rfl)
     have m2:=fun N:qi.Cls wr=>(Below.cell N.h (p:=⟨b,off+k*5+2,none⟩) hlt).trans (HC.out k _ HG.out 2 _ rfl)
     have m3:=fun N:qi.Cls wr=>(Below.cell N.h (p:=⟨b,off+k*5+3,none⟩) hlt).trans (HC.out k _ HG.out 3 _ rfl)
     have m4:=fun N:qi.Cls wr=>(Below.cell N.h (p:=⟨b,off+k*5+4,none⟩) hlt).trans (HC.out k _ HG.out 4 _ rfl)
     have i3:(k:Int)<(ts.length:Int):=by omega
     obtain⟨ob,hob⟩:∃ ob,st.okB nm lo nx rs hs=ob:=⟨_,rfl⟩
     have k1:∀ N:qi.Cls wr,Calls Tryz.prog 35 #[.agg #[.string nm,.int .i64 lo,.int .i64 nx,.slice ra rs.length rc,.slice ha hs.length hc]] N.x fun e w'=>e=.returned (.bool ob)/\qi.T wr w':=fun N=>by
      have h:=KT.out ⟨nm,lo,nx,ra,rc,rs,ha,hc,hs⟩ hmem N.x (hNb N)
      rw [<- hob]
      exact h.mono fun e w' ⟨h1,h2⟩=>⟨h1,N.h.next h2⟩
     have HOB:Hid (st.okB nm lo nx rs hs=ob):=hob
     clear he hcell hob hNb hmem
     cases ob with
     | false =>
      have hbad:Hid (¬ OkC es bs qs ts):=fun h=>badT_ok HG.out HOB.out h.t
      go_wp2
      refine qi.region_in wr (qi.T.refl wr) (by kernel_rfl) (by kernel_rfl) ?_
      repeat (go_big_quiet_step (first | (go_at_call 35;refine(k1 _).mono ?_;rintro e wx ⟨rfl,hTx⟩;exact⟨rfl,⟨wx,hTx⟩,rfl⟩)))
      refine wpQuiet_nil ?_
      rintro _ ⟨N,rfl⟩
      have hN:=N.h
      generalize N.x=wN at hN ⊢
      clear N k1 z0 z1 z2 z3 m0 m1 m2 m3 m4
      have hbN:Below W.heap.size W wN:=hbel.out.trans (Below.mono hN hbsz)
      go_wp2
      go_ret
      exact⟨by rw [okC_no (fun h=>hbad.out h)];rfl,hb.trans (hbN.mono hb.size)⟩
     | true =>
      by_cases hk0:k=0
      ·have h30:Hid (∀ p,k≠0->ts[k - 1]?=some p->lt p.nm nm=true):=fun p h=>absurd hk0 h
       have hk0d:decide ((0:Int)<(k:Int))=false:=by simp;omega
       have hk0e:decide (0<k)=false:=by simp;omega
       clear hk0
       have hnext:Hid (GoodT ts (k+1)):=goodT_next hgood.out HG.out HOB.out h30.out
       go_wp2
       refine qi.region_in wr (qi.T.refl wr) (by kernel_rfl) (by kernel_rfl) ?_
       repeat (go_big_quiet_step (first | (go_at_call 35;refine(k1 _).mono ?_;rintro e wx ⟨rfl,hTx⟩;exact⟨rfl,⟨wx,hTx⟩,rfl⟩)))
       refine wpQuiet_nil ?_
       rintro _ ⟨N,rfl⟩
       have hN:=N.h
       generalize N.x=wN at hN ⊢
       clear N k1 z0 z1 z2 z3 m0 m1 m2 m3 m4
       have hbN:Below W.heap.size W wN:=hbel.out.trans (Below.mono hN hbsz)
       go_wp2
       go_roundw
       case rel=>exact⟨k+1,by omega,by go_num,hnext,hbN⟩
       case measure=>simp [intOf];omega
      ·obtain⟨m,rfl⟩:∃ m,k=m+1:=⟨k - 1,by omega⟩
       have HG1:Hid (ts[m]?=some ts[m]):=List.getElem?_eq_getElem (by omega)
       obtain⟨⟨nm',lo',nx',ra',rc',rs',ha',hc',hs'⟩,hpe⟩:∃ e,ts[m]=e:=⟨_,rfl⟩
       rw [hpe] at HG1
       have P0:=fun N:qi.Cls wr=>(Below.cell N.h (p:=⟨b,off+m*5,none⟩) hlt).trans (HC.out m _ HG1.out 0 _ rfl)
       have i1:IntKind.i64.wrap (m:Int)=(m:Int):=by rw [IntKind.wrap_i64];omega
       have i2:(m:Int)<(ts.length:Int):=by omega
       clear hpe
       cases hq:(Op.bytesLess nm.toList nm'.toList || nm.toList == nm'.toList) with
       | true =>
        have hbad:Hid (¬ OkC es bs qs ts):=fun h=>badT_up HG1.out HG.out (by
         cases h:lt nm' nm with
         | false=>rfl
         | true=>have h2:=above.2 h;have h3:(lt nm nm' || nm.toList == nm'.toList)=true:=hq;rw [h2] at h3;cases h3) h.t
        go_wp2
        refine qi.region_in wr (qi.T.refl wr) (by kernel_rfl) (by kernel_rfl) ?_
        repeat (go_big_quiet_step (first | (go_at_call 35;refine(k1 _).mono ?_;rintro e wx ⟨rfl,hTx⟩;exact⟨rfl,⟨wx,hTx⟩,rfl⟩)))
        refine wpQuiet_nil ?_
        rintro _ ⟨N,rfl⟩
        have hN:=N.h
        generalize N.x=wN at hN ⊢
        clear N k1 z0 z1 z2 z3 m0 m1 m2 m3 m4 P0
        have hbN:Below W.heap.size W wN:=hbel.out.trans (Below.mono hN hbsz)
        go_wp2
        go_ret
        exact⟨by rw [okC_no (fun h=>hbad.out h)];rfl,hb.trans (hbN.mono hb.size)⟩
       | false =>
        have h3:Hid (∀ p,m+1≠0->ts[m+1 - 1]?=some p->lt p.nm nm=true):=fun p _ hp=>by
         have hp2:ts[m]?=some p:=hp
         rw [HG1.out] at hp2
         cases hp2
         exact above.1 hq
        have hnext:Hid (GoodT ts (m+1+1)):=goodT_next hgood.out HG.out HOB.out h3.out
        go_wp2
        refine qi.region_in wr (qi.T.refl wr) (by kernel_rfl) (by kernel_rfl) ?_
        repeat (go_big_quiet_step (first | (go_at_call 35;refine(k1 _).mono ?_;rintro e wx ⟨rfl,hTx⟩;exact⟨rfl,⟨wx,hTx⟩,rfl⟩)))
        refine wpQuiet_nil ?_
        rintro _ ⟨N,rfl⟩
        have hN:=N.h
        generalize N.x=wN at hN ⊢
        clear N k1 z0 z1 z2 z3 m0 m1 m2 m3 m4 P0
        have hbN:Below W.heap.size W wN:=hbel.out.trans (Below.mono hN hbsz)
        go_wp2
        go_roundw
        case rel=>exact⟨m+1+1,by omega,by go_num,hnext,hbN⟩
        case measure=>simp [intOf];omega
    ·obtain rfl:k=ts.length:=by omega
     have HGT:Hid (GoodT ts ts.length):=hgood
     obtain⟨ob,hob⟩:∃ ob,okR es bs=ob:=⟨_,rfl⟩
     have k3:Calls Tryz.prog 36 #[.agg #[.slice ea es.length ec,.slice ba bs.length bc]] wr fun e w'=>e=.returned (.bool ob)/\Below wr.heap.size wr w':=by
      rw [<- hob]
      exact KR.out wr (hb.trans (hbel.out.mono hb.size))
     have HOB:Hid (okR es bs=ob):=hob
     clear hob
     cases ob with
     | false =>
      have hbad:Hid (¬ OkC es bs qs ts):=fun h=>by have:=okR_true.2 h.r;rw [HOB.out] at this;cases this
      go_wp2_with (go_at_call 36;fail)
      refine k3.mono ?_
      rintro e wN ⟨rfl,hb5⟩
      have hbN:Below W.heap.size W wN:=hbel.out.trans (hb5.mono hbsz)
      obtain⟨c0,c1,c2,c3⟩:=BX.out wN hbN
      clear k3
      go_wp2
      go_ret
      exact⟨by rw [okC_no (fun h=>hbad.out h)];rfl,hb.trans (hbN.mono hb.size)⟩
     | true =>
      by_cases h20:(qs.length:Int) <= 20
      ·by_cases h21:(ts.length:Int) <= 20
       ·have hok:Hid (OkC es bs qs ts):=⟨HGQ.out,HGT.out,okR_true.1 HOB.out,by omega,by omega⟩
        go_wp2_with (go_at_call 36;fail)
        refine k3.mono ?_
        rintro e wN ⟨rfl,hb5⟩
        have hbN:Below W.heap.size W wN:=hbel.out.trans (hb5.mono hbsz)
        obtain⟨c0,c1,c2,c3⟩:=BX.out wN hbN
        clear k3
        go_wp2
        go_ret
        exact⟨by rw [okC_true.2 hok.out];first | rfl | simp [h20,h21],hb.trans (hbN.mono hb.size)⟩
       ·have hbad:Hid (¬ OkC es bs qs ts):=fun h=>by have:=h.tl;omega
        go_wp2_with (go_at_call 36;fail)
        refine k3.mono ?_
        rintro e wN ⟨rfl,hb5⟩
        have hbN:Below W.heap.size W wN:=hbel.out.trans (hb5.mono hbsz)
        obtain⟨c0,c1,c2,c3⟩:=BX.out wN hbN
        clear k3
        go_wp2
        go_ret
        exact⟨by rw [okC_no (fun h=>hbad.out h)];first | rfl | simp [h21],hb.trans (hbN.mono hb.size)⟩
      ·have hbad:Hid (¬ OkC es bs qs ts):=fun h=>by have:=h.ql;omega
       go_wp2_with (go_at_call 36;fail)
       refine k3.mono ?_
       rintro e wN ⟨rfl,hb5⟩
       have hbN:Below W.heap.size W wN:=hbel.out.trans (hb5.mono hbsz)
       obtain⟨c0,c1,c2,c3⟩:=BX.out wN hbN
       clear k3
       go_wp2
       go_ret
       exact⟨by rw [okC_no (fun h=>hbad.out h)];first | rfl | simp [h20],hb.trans (hbN.mono hb.size)⟩
end Go.Proofs.YteoojodkkjepeaaGreat.cos
