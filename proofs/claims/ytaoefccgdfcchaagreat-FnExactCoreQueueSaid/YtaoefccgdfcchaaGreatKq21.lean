/- CoreOkSpec, CoreOkImpl. -/
import Derived.Test.YtaoefccgdfcchaaGreatKq20
set_option maxRecDepth 100000
set_option maxHeartbeats 8000000
set_option linter.unusedVariables false
namespace Go.Proofs.YtaoefccgdfcchaaGreat.cos
open ChangeShapes WideShapes ChangeAt RowKit rc rr ro fl co
theorem spec_ok (es:List Ex) (bs:List Bi) (qs:List qu.E) (ts:List su.E) (ea ba qa ta:Option Addr) (ec bc qc tc:Nat) (w:World) (hql:qs.length <= 1048576) (htl:ts.length <= 1048576) (hQ:Row qu.c 4 w w.heap.size qa qs) (hT:Row su.c 5 w w.heap.size ta ts) (kq:(∀ r ∈ qs,∀ V,Below w.heap.size w V->Calls Tryz.prog 44 #[.agg #[.string r.nm,.int .i64 r.nx,.slice r.ra r.rs.length r.rc,.slice r.ha r.hs.length r.hc]] V fun e w'=>e=.returned (.bool (qsp.okB r.nm r.nx r.rs r.hs))/\Below V.heap.size V w')) (kt:(∀ r ∈ ts,∀ V,Below w.heap.size w V->Calls Tryz.prog 45 #[.agg #[.string r.nm,.int .i64 r.lo,.int .i64 r.nx,.slice r.ra r.rs.length r.rc,.slice r.ha r.hs.length r.hc]] V fun e w'=>e=.returned (.bool (st.okB r.nm r.lo r.nx r.rs r.hs))/\Below V.heap.size V w')) (kr:(∀ V,Below w.heap.size w V->Calls Tryz.prog 46 #[.agg #[.slice ea es.length ec,.slice ba bs.length bc]] V fun e w'=>e=.returned (.bool (okR es bs))/\Below V.heap.size V w')) :
  Calls Tryz.prog 17 #[.agg #[.slice ea es.length ec,.slice ba bs.length bc,.slice qa qs.length qc,.slice ta ts.length tc]] w fun e w'=>e=.returned (.bool (okC es bs qs ts))/\Below w.heap.size w w':=by
 have hb:=fl.bl w (.cells #[.slice ea es.length ec,.slice ba bs.length bc,.slice qa qs.length qc,.slice ta ts.length tc] 38)
 have hA:=bnew w #[.slice ea es.length ec,.slice ba bs.length bc,.slice qa qs.length qc,.slice ta ts.length tc] 38
 obtain ⟨W,hW⟩:∃ W,w.alloc (.cells #[.slice ea es.length ec,.slice ba bs.length bc,.slice qa qs.length qc,.slice ta ts.length tc] 38)=W:=⟨_,rfl⟩
 have hsW:W.heap.size=w.heap.size+1:=by rw [<- hW]; simp
 rw [hW] at hb hA
 have HQ:Hid (Row qu.c 4 W W.heap.size qa qs):=hQ.inn hb
 have HT:Hid (Row su.c 5 W W.heap.size ta ts):=hT.inn hb
 have HA:Hid (W.heap[w.heap.size]?=some (.cells #[.slice ea es.length ec,.slice ba bs.length bc,.slice qa qs.length qc,.slice ta ts.length tc] 38 (0,0))):=hA
 have BX:Hid (∀ w',Below W.heap.size W w'->w'.cell? ⟨w.heap.size,0,none⟩=some (.slice ea es.length ec)/\w'.cell? ⟨w.heap.size,1,none⟩=some (.slice ba bs.length bc)/\w'.cell? ⟨w.heap.size,2,none⟩=some (.slice qa qs.length qc)/\w'.cell? ⟨w.heap.size,3,none⟩=some (.slice ta ts.length tc)):=fun w' h=>by
  have h1:=bstay HA.out h (by omega)
  exact ⟨bcell h1 rfl,bcell h1 rfl,bcell h1 rfl,bcell h1 rfl⟩
 have KQ:Hid (∀ r ∈ qs,∀ V,Below w.heap.size w V->Calls Tryz.prog 44 #[.agg #[.string r.nm,.int .i64 r.nx,.slice r.ra r.rs.length r.rc,.slice r.ha r.hs.length r.hc]] V fun e w'=>e=.returned (.bool (qsp.okB r.nm r.nx r.rs r.hs))/\Below V.heap.size V w'):=kq
 have KT:Hid (∀ r ∈ ts,∀ V,Below w.heap.size w V->Calls Tryz.prog 45 #[.agg #[.string r.nm,.int .i64 r.lo,.int .i64 r.nx,.slice r.ra r.rs.length r.rc,.slice r.ha r.hs.length r.hc]] V fun e w'=>e=.returned (.bool (st.okB r.nm r.lo r.nx r.rs r.hs))/\Below V.heap.size V w'):=kt
 have KR:Hid (∀ V,Below w.heap.size w V->Calls Tryz.prog 46 #[.agg #[.slice ea es.length ec,.slice ba bs.length bc]] V fun e w'=>e=.returned (.bool (okR es bs))/\Below V.heap.size V w'):=kr
 clear hQ hT hA kq kt kr
 go_enter Tryz.func17,Tryz.ntmps17
 go_wp2
 clear hW
 go_loopw [3] (fun v wr=>∃ k:Nat,k <= qs.length/\v=.int .i64 k/\Hid (GoodQ qs ts k)/\Hid (Below W.heap.size W wr)) (fun v _=>qs.length - (intOf v).toNat)
 case atStart=>exact ⟨0,Nat.zero_le _,rfl,⟨fun i e h=>by omega,fun i a b h=>by omega⟩,Below.refl _ _⟩
 case round =>
  obtain ⟨k,hk,rfl,hgood,hbel⟩:=hrel
  obtain ⟨c0,c1,c2,c3⟩:=BX.out wr hbel.out
  have hbsz:=hbel.out.size
  by_cases hkl:k < qs.length
  ·have HG:Hid (qs[k]?=some qs[k]):=List.getElem?_eq_getElem hkl
   have hmem:qs[k] ∈ qs:=List.getElem_mem hkl
   obtain ⟨⟨nm,nx,ra,rc,rs,ha,hc,hs⟩,he⟩:∃ e,qs[k]=e:=⟨_,rfl⟩
   rw [he] at HG hmem
   have hRw:=HQ.out.inn hbel.out
   rcases hRw with h0 | ⟨b,off,hra,hlt,hcell⟩
   ·rw [h0] at hkl; simp at hkl
   subst hra
   have HC:Hid (∀ (i:Nat) (e:qu.E),qs[i]?=some e->∀ (j:Nat) (v:Value),(qu.c e)[j]?=some v->wr.cell? ⟨b,off+i*4+j,none⟩=some v):=hcell
   have hxl:w.heap.size < wr.heap.size:=by omega
   have hNb:∀ N:qi.Cls wr,Below w.heap.size w N.x:=fun N=>hb.trans ((hbel.out.trans (Below.mono N.h hbsz)).mono hb.size)
   have z0:=fun N:qi.Cls wr=>(Below.cell N.h (p:=⟨w.heap.size,0,none⟩) hxl).trans c0
   have z1:=fun N:qi.Cls wr=>(Below.cell N.h (p:=⟨w.heap.size,1,none⟩) hxl).trans c1
   have z2:=fun N:qi.Cls wr=>(Below.cell N.h (p:=⟨w.heap.size,2,none⟩) hxl).trans c2
   have z3:=fun N:qi.Cls wr=>(Below.cell N.h (p:=⟨w.heap.size,3,none⟩) hxl).trans c3
   have m0:=fun N:qi.Cls wr=>(Below.cell N.h (p:=⟨b,off+k*4,none⟩) hlt).trans (HC.out k _ HG.out 0 _ rfl)
   have m1:=fun N:qi.Cls wr=>(Below.cell N.h (p:=⟨b,off+k*4+1,none⟩) hlt).trans (HC.out k _ HG.out 1 _ rfl)
   have m2:=fun N:qi.Cls wr=>(Below.cell N.h (p:=⟨b,off+k*4+2,none⟩) hlt).trans (HC.out k _ HG.out 2 _ rfl)
   have m3:=fun N:qi.Cls wr=>(Below.cell N.h (p:=⟨b,off+k*4+3,none⟩) hlt).trans (HC.out k _ HG.out 3 _ rfl)
   have i3:(k:Int) < (qs.length:Int):=by omega
   obtain ⟨ob,hob⟩:∃ ob,qsp.okB nm nx rs hs=ob:=⟨_,rfl⟩
   have k1:∀ N:qi.Cls wr,Calls Tryz.prog 44 #[.agg #[.string nm,.int .i64 nx,.slice ra rs.length rc,.slice ha hs.length hc]] N.x fun e w'=>e=.returned (.bool ob)/\qi.T wr w':=fun N=>by
    have h:=KQ.out ⟨nm,nx,ra,rc,rs,ha,hc,hs⟩ hmem N.x (hNb N)
    rw [<- hob]
    exact h.mono fun e w' ⟨h1,h2⟩=>⟨h1,N.h.next h2⟩
   obtain ⟨pl,hpl⟩:∃ pl,su.place ts nm=pl:=⟨_,rfl⟩
   have HPL:Hid (su.place ts nm=pl):=hpl
   have k2:∀ N:qi.Cls wr,Calls Tryz.prog 16 #[.agg #[.slice ea es.length ec,.slice ba bs.length bc,.slice (some ⟨b,off,none⟩) qs.length qc,.slice ta ts.length tc],.string nm] N.x fun e w'=>e=.returned (.int .i64 pl)/\qi.T wr w':=fun N=>by
    have h:=su.spec_at ts ta ea ba (some ⟨b,off,none⟩) tc es.length ec bs.length bc qs.length qc nm N.x htl (HT.out.inn (hbel.out.trans (Below.mono N.h hbsz)))
    rw [<- hpl]
    exact h.mono fun e w' ⟨h1,h2⟩=>⟨h1,N.h.next h2⟩
   have HOB:Hid (qsp.okB nm nx rs hs=ob):=hob
   clear he hcell hob hNb hmem hpl
   cases ob with
   | false =>
    have hbad:Hid (¬ OkC es bs qs ts):=fun h=>badQ_ok HG.out HOB.out h.q
    go_wp2
    refine qi.region_in wr (qi.T.refl wr) (by kernel_rfl) (by kernel_rfl) ?_
    repeat (go_big_quiet_step (first | (go_at_call 44; refine (k1 _).mono ?_; rintro e wx ⟨rfl,hTx⟩; exact ⟨rfl,⟨wx,hTx⟩,rfl⟩) | (go_at_call 16; refine (k2 _).mono ?_; rintro e wx ⟨rfl,hTx⟩; exact ⟨rfl,⟨wx,hTx⟩,rfl⟩)))
    refine wpQuiet_nil ?_
    rintro _ ⟨N,rfl⟩
    have hN:=N.h
    generalize N.x=wN at hN ⊢
    clear N k1 k2 z0 z1 z2 z3 m0 m1 m2 m3
    have hbN:Below W.heap.size W wN:=hbel.out.trans (Below.mono hN hbsz)
    go_wp2
    go_ret
    exact ⟨by rw [okC_no (fun h=>hbad.out h)]; rfl,hb.trans (hbN.mono hb.size)⟩
   | true =>
    by_cases hk0:k=0
    ·have h30:Hid (∀ p,k ≠ 0->qs[k - 1]?=some p->lt p.nm nm=true):=fun p h=>absurd hk0 h
     have hk0d:decide ((0:Int) < (k:Int))=false:=by simp; omega
     have hk0e:decide (0 < k)=false:=by simp; omega
     clear hk0
     by_cases hp:0 <= pl
     ·have hpd:decide (0 <= pl)=true:=decide_eq_true hp
      have hbad:Hid (¬ OkC es bs qs ts):=fun h=>badQ_at HG.out (by show 0 <= su.place ts nm; rw [HPL.out]; exact hp) h.q
      go_wp2
      refine qi.region_in wr (qi.T.refl wr) (by kernel_rfl) (by kernel_rfl) ?_
      repeat (go_big_quiet_step (first | (go_at_call 44; refine (k1 _).mono ?_; rintro e wx ⟨rfl,hTx⟩; exact ⟨rfl,⟨wx,hTx⟩,rfl⟩) | (go_at_call 16; refine (k2 _).mono ?_; rintro e wx ⟨rfl,hTx⟩; exact ⟨rfl,⟨wx,hTx⟩,rfl⟩)))
      refine wpQuiet_nil ?_
      rintro _ ⟨N,rfl⟩
      have hN:=N.h
      generalize N.x=wN at hN ⊢
      clear N k1 k2 z0 z1 z2 z3 m0 m1 m2 m3
      have hbN:Below W.heap.size W wN:=hbel.out.trans (Below.mono hN hbsz)
      go_wp2
      go_ret
      exact ⟨by rw [okC_no (fun h=>hbad.out h)]; rfl,hb.trans (hbN.mono hb.size)⟩
     ·have hpd:decide (0 <= pl)=false:=decide_eq_false hp
      have hnext:Hid (GoodQ qs ts (k+1)):=goodQ_next hgood.out HG.out HOB.out (by show ¬ 0 <= su.place ts nm; rw [HPL.out]; exact hp) h30.out
      go_wp2
      refine qi.region_in wr (qi.T.refl wr) (by kernel_rfl) (by kernel_rfl) ?_
      repeat (go_big_quiet_step (first | (go_at_call 44; refine (k1 _).mono ?_; rintro e wx ⟨rfl,hTx⟩; exact ⟨rfl,⟨wx,hTx⟩,rfl⟩) | (go_at_call 16; refine (k2 _).mono ?_; rintro e wx ⟨rfl,hTx⟩; exact ⟨rfl,⟨wx,hTx⟩,rfl⟩)))
      refine wpQuiet_nil ?_
      rintro _ ⟨N,rfl⟩
      have hN:=N.h
      generalize N.x=wN at hN ⊢
      clear N k1 k2 z0 z1 z2 z3 m0 m1 m2 m3
      have hbN:Below W.heap.size W wN:=hbel.out.trans (Below.mono hN hbsz)
      go_wp2
      go_roundw
      case rel=>exact ⟨k+1,by omega,by go_num,hnext,hbN⟩
      case measure=>simp [intOf]; omega
    ·obtain ⟨m,rfl⟩:∃ m,k=m+1:=⟨k - 1,by omega⟩
     have HG1:Hid (qs[m]?=some qs[m]):=List.getElem?_eq_getElem (by omega)
     obtain ⟨⟨nm',nx',ra',rc',rs',ha',hc',hs'⟩,hpe⟩:∃ e,qs[m]=e:=⟨_,rfl⟩
     rw [hpe] at HG1
     have P0:=fun N:qi.Cls wr=>(Below.cell N.h (p:=⟨b,off+m*4,none⟩) hlt).trans (HC.out m _ HG1.out 0 _ rfl)
     have i1:IntKind.i64.wrap (m:Int)=(m:Int):=by rw [IntKind.wrap_i64]; omega
     have i2:(m:Int) < (qs.length:Int):=by omega
     clear hpe
     cases hq:(Op.bytesLess nm.toList nm'.toList || nm.toList == nm'.toList) with
     | true =>
      have hbad:Hid (¬ OkC es bs qs ts):=fun h=>badQ_up HG1.out HG.out (by
       cases h:lt nm' nm with
       | false=>rfl
       | true=>have h2:=above.2 h; have h3:(lt nm nm' || nm.toList == nm'.toList)=true:=hq; rw [h2] at h3; cases h3) h.q
      go_wp2
      refine qi.region_in wr (qi.T.refl wr) (by kernel_rfl) (by kernel_rfl) ?_
      repeat (go_big_quiet_step (first | (go_at_call 44; refine (k1 _).mono ?_; rintro e wx ⟨rfl,hTx⟩; exact ⟨rfl,⟨wx,hTx⟩,rfl⟩) | (go_at_call 16; refine (k2 _).mono ?_; rintro e wx ⟨rfl,hTx⟩; exact ⟨rfl,⟨wx,hTx⟩,rfl⟩)))
      refine wpQuiet_nil ?_
      rintro _ ⟨N,rfl⟩
      have hN:=N.h
      generalize N.x=wN at hN ⊢
      clear N k1 k2 z0 z1 z2 z3 m0 m1 m2 m3 P0
      have hbN:Below W.heap.size W wN:=hbel.out.trans (Below.mono hN hbsz)
      go_wp2
      go_ret
      exact ⟨by rw [okC_no (fun h=>hbad.out h)]; rfl,hb.trans (hbN.mono hb.size)⟩
     | false =>
      have h3:Hid (∀ p,m+1 ≠ 0->qs[m+1 - 1]?=some p->lt p.nm nm=true):=fun p _ hp=>by
       have hp2:qs[m]?=some p:=hp
       rw [HG1.out] at hp2
       cases hp2
       exact above.1 hq
      by_cases hp:0 <= pl
      ·have hpd:decide (0 <= pl)=true:=decide_eq_true hp
       have hbad:Hid (¬ OkC es bs qs ts):=fun h=>badQ_at HG.out (by show 0 <= su.place ts nm; rw [HPL.out]; exact hp) h.q
       go_wp2
       refine qi.region_in wr (qi.T.refl wr) (by kernel_rfl) (by kernel_rfl) ?_
       repeat (go_big_quiet_step (first | (go_at_call 44; refine (k1 _).mono ?_; rintro e wx ⟨rfl,hTx⟩; exact ⟨rfl,⟨wx,hTx⟩,rfl⟩) | (go_at_call 16; refine (k2 _).mono ?_; rintro e wx ⟨rfl,hTx⟩; exact ⟨rfl,⟨wx,hTx⟩,rfl⟩)))
       refine wpQuiet_nil ?_
       rintro _ ⟨N,rfl⟩
       have hN:=N.h
       generalize N.x=wN at hN ⊢
       clear N k1 k2 z0 z1 z2 z3 m0 m1 m2 m3 P0
       have hbN:Below W.heap.size W wN:=hbel.out.trans (Below.mono hN hbsz)
       go_wp2
       go_ret
       exact ⟨by rw [okC_no (fun h=>hbad.out h)]; rfl,hb.trans (hbN.mono hb.size)⟩
      ·have hpd:decide (0 <= pl)=false:=decide_eq_false hp
       have hnext:Hid (GoodQ qs ts (m+1+1)):=goodQ_next hgood.out HG.out HOB.out (by show ¬ 0 <= su.place ts nm; rw [HPL.out]; exact hp) h3.out
       go_wp2
       refine qi.region_in wr (qi.T.refl wr) (by kernel_rfl) (by kernel_rfl) ?_
       repeat (go_big_quiet_step (first | (go_at_call 44; refine (k1 _).mono ?_; rintro e wx ⟨rfl,hTx⟩; exact ⟨rfl,⟨wx,hTx⟩,rfl⟩) | (go_at_call 16; refine (k2 _).mono ?_; rintro e wx ⟨rfl,hTx⟩; exact ⟨rfl,⟨wx,hTx⟩,rfl⟩)))
       refine wpQuiet_nil ?_
       rintro _ ⟨N,rfl⟩
       have hN:=N.h
       generalize N.x=wN at hN ⊢
       clear N k1 k2 z0 z1 z2 z3 m0 m1 m2 m3 P0
       have hbN:Below W.heap.size W wN:=hbel.out.trans (Below.mono hN hbsz)
       go_wp2
       go_roundw
       case rel=>exact ⟨m+1+1,by omega,by go_num,hnext,hbN⟩
       case measure=>simp [intOf]; omega
  ·obtain rfl:k=qs.length:=by omega
   have HGQ:Hid (GoodQ qs ts qs.length):=hgood
   have HB1:Hid (Below W.heap.size W wr):=hbel
   have hs1:W.heap.size <= wr.heap.size:=hbsz
   obtain ⟨w1,hw1⟩:∃ w1,wr=w1:=⟨_,rfl⟩
   subst hw1
   clear hgood hbel hbsz hk
   go_wp2
   clear c0 c1 c2 c3
   go_loopw [4] (fun v wr=>∃ k:Nat,k <= ts.length/\v=.int .i64 k/\Hid (GoodT ts k)/\Hid (Below W.heap.size W wr)) (fun v _=>ts.length - (intOf v).toNat)
   case atStart=>exact ⟨0,Nat.zero_le _,rfl,⟨fun i e h=>by omega,fun i a b h=>by omega⟩,HB1⟩
   case round =>
    obtain ⟨k,hk,rfl,hgood,hbel⟩:=hrel
    obtain ⟨c0,c1,c2,c3⟩:=BX.out wr hbel.out
    have hbsz:=hbel.out.size
    by_cases hkl:k < ts.length
    ·have HG:Hid (ts[k]?=some ts[k]):=List.getElem?_eq_getElem hkl
     have hmem:ts[k] ∈ ts:=List.getElem_mem hkl
     obtain ⟨⟨nm,lo,nx,ra,rc,rs,ha,hc,hs⟩,he⟩:∃ e,ts[k]=e:=⟨_,rfl⟩
     rw [he] at HG hmem
     have hRw:=HT.out.inn hbel.out
     rcases hRw with h0 | ⟨b,off,hra,hlt,hcell⟩
     ·rw [h0] at hkl; simp at hkl
     subst hra
     have HC:Hid (∀ (i:Nat) (e:su.E),ts[i]?=some e->∀ (j:Nat) (v:Value),(su.c e)[j]?=some v->wr.cell? ⟨b,off+i*5+j,none⟩=some v):=hcell
     have hxl:w.heap.size < wr.heap.size:=by omega
     have hNb:∀ N:qi.Cls wr,Below w.heap.size w N.x:=fun N=>hb.trans ((hbel.out.trans (Below.mono N.h hbsz)).mono hb.size)
     have z0:=fun N:qi.Cls wr=>(Below.cell N.h (p:=⟨w.heap.size,0,none⟩) hxl).trans c0
     have z1:=fun N:qi.Cls wr=>(Below.cell N.h (p:=⟨w.heap.size,1,none⟩) hxl).trans c1
     have z2:=fun N:qi.Cls wr=>(Below.cell N.h (p:=⟨w.heap.size,2,none⟩) hxl).trans c2
     have z3:=fun N:qi.Cls wr=>(Below.cell N.h (p:=⟨w.heap.size,3,none⟩) hxl).trans c3
     have m0:=fun N:qi.Cls wr=>(Below.cell N.h (p:=⟨b,off+k*5,none⟩) hlt).trans (HC.out k _ HG.out 0 _ rfl)
     have m1:=fun N:qi.Cls wr=>(Below.cell N.h (p:=⟨b,off+k*5+1,none⟩) hlt).trans (HC.out k _ HG.out 1 _ rfl)
     have m2:=fun N:qi.Cls wr=>(Below.cell N.h (p:=⟨b,off+k*5+2,none⟩) hlt).trans (HC.out k _ HG.out 2 _ rfl)
     have m3:=fun N:qi.Cls wr=>(Below.cell N.h (p:=⟨b,off+k*5+3,none⟩) hlt).trans (HC.out k _ HG.out 3 _ rfl)
     have m4:=fun N:qi.Cls wr=>(Below.cell N.h (p:=⟨b,off+k*5+4,none⟩) hlt).trans (HC.out k _ HG.out 4 _ rfl)
     have i3:(k:Int) < (ts.length:Int):=by omega
     obtain ⟨ob,hob⟩:∃ ob,st.okB nm lo nx rs hs=ob:=⟨_,rfl⟩
     have k1:∀ N:qi.Cls wr,Calls Tryz.prog 45 #[.agg #[.string nm,.int .i64 lo,.int .i64 nx,.slice ra rs.length rc,.slice ha hs.length hc]] N.x fun e w'=>e=.returned (.bool ob)/\qi.T wr w':=fun N=>by
      have h:=KT.out ⟨nm,lo,nx,ra,rc,rs,ha,hc,hs⟩ hmem N.x (hNb N)
      rw [<- hob]
      exact h.mono fun e w' ⟨h1,h2⟩=>⟨h1,N.h.next h2⟩
     have HOB:Hid (st.okB nm lo nx rs hs=ob):=hob
     clear he hcell hob hNb hmem
     cases ob with
     | false =>
      have hbad:Hid (¬ OkC es bs qs ts):=fun h=>badT_ok HG.out HOB.out h.t
      go_wp2
      refine qi.region_in wr (qi.T.refl wr) (by kernel_rfl) (by kernel_rfl) ?_
      repeat (go_big_quiet_step (first | (go_at_call 45; refine (k1 _).mono ?_; rintro e wx ⟨rfl,hTx⟩; exact ⟨rfl,⟨wx,hTx⟩,rfl⟩)))
      refine wpQuiet_nil ?_
      rintro _ ⟨N,rfl⟩
      have hN:=N.h
      generalize N.x=wN at hN ⊢
      clear N k1 z0 z1 z2 z3 m0 m1 m2 m3 m4
      have hbN:Below W.heap.size W wN:=hbel.out.trans (Below.mono hN hbsz)
      go_wp2
      go_ret
      exact ⟨by rw [okC_no (fun h=>hbad.out h)]; rfl,hb.trans (hbN.mono hb.size)⟩
     | true =>
      by_cases hk0:k=0
      ·have h30:Hid (∀ p,k ≠ 0->ts[k - 1]?=some p->lt p.nm nm=true):=fun p h=>absurd hk0 h
       have hk0d:decide ((0:Int) < (k:Int))=false:=by simp; omega
       have hk0e:decide (0 < k)=false:=by simp; omega
       clear hk0
       have hnext:Hid (GoodT ts (k+1)):=goodT_next hgood.out HG.out HOB.out h30.out
       go_wp2
       refine qi.region_in wr (qi.T.refl wr) (by kernel_rfl) (by kernel_rfl) ?_
       repeat (go_big_quiet_step (first | (go_at_call 45; refine (k1 _).mono ?_; rintro e wx ⟨rfl,hTx⟩; exact ⟨rfl,⟨wx,hTx⟩,rfl⟩)))
       refine wpQuiet_nil ?_
       rintro _ ⟨N,rfl⟩
       have hN:=N.h
       generalize N.x=wN at hN ⊢
       clear N k1 z0 z1 z2 z3 m0 m1 m2 m3 m4
       have hbN:Below W.heap.size W wN:=hbel.out.trans (Below.mono hN hbsz)
       go_wp2
       go_roundw
       case rel=>exact ⟨k+1,by omega,by go_num,hnext,hbN⟩
       case measure=>simp [intOf]; omega
      ·obtain ⟨m,rfl⟩:∃ m,k=m+1:=⟨k - 1,by omega⟩
       have HG1:Hid (ts[m]?=some ts[m]):=List.getElem?_eq_getElem (by omega)
       obtain ⟨⟨nm',lo',nx',ra',rc',rs',ha',hc',hs'⟩,hpe⟩:∃ e,ts[m]=e:=⟨_,rfl⟩
       rw [hpe] at HG1
       have P0:=fun N:qi.Cls wr=>(Below.cell N.h (p:=⟨b,off+m*5,none⟩) hlt).trans (HC.out m _ HG1.out 0 _ rfl)
       have i1:IntKind.i64.wrap (m:Int)=(m:Int):=by rw [IntKind.wrap_i64]; omega
       have i2:(m:Int) < (ts.length:Int):=by omega
       clear hpe
       cases hq:(Op.bytesLess nm.toList nm'.toList || nm.toList == nm'.toList) with
       | true =>
        have hbad:Hid (¬ OkC es bs qs ts):=fun h=>badT_up HG1.out HG.out (by
         cases h:lt nm' nm with
         | false=>rfl
         | true=>have h2:=above.2 h; have h3:(lt nm nm' || nm.toList == nm'.toList)=true:=hq; rw [h2] at h3; cases h3) h.t
        go_wp2
        refine qi.region_in wr (qi.T.refl wr) (by kernel_rfl) (by kernel_rfl) ?_
        repeat (go_big_quiet_step (first | (go_at_call 45; refine (k1 _).mono ?_; rintro e wx ⟨rfl,hTx⟩; exact ⟨rfl,⟨wx,hTx⟩,rfl⟩)))
        refine wpQuiet_nil ?_
        rintro _ ⟨N,rfl⟩
        have hN:=N.h
        generalize N.x=wN at hN ⊢
        clear N k1 z0 z1 z2 z3 m0 m1 m2 m3 m4 P0
        have hbN:Below W.heap.size W wN:=hbel.out.trans (Below.mono hN hbsz)
        go_wp2
        go_ret
        exact ⟨by rw [okC_no (fun h=>hbad.out h)]; rfl,hb.trans (hbN.mono hb.size)⟩
       | false =>
        have h3:Hid (∀ p,m+1 ≠ 0->ts[m+1 - 1]?=some p->lt p.nm nm=true):=fun p _ hp=>by
         have hp2:ts[m]?=some p:=hp
         rw [HG1.out] at hp2
         cases hp2
         exact above.1 hq
        have hnext:Hid (GoodT ts (m+1+1)):=goodT_next hgood.out HG.out HOB.out h3.out
        go_wp2
        refine qi.region_in wr (qi.T.refl wr) (by kernel_rfl) (by kernel_rfl) ?_
        repeat (go_big_quiet_step (first | (go_at_call 45; refine (k1 _).mono ?_; rintro e wx ⟨rfl,hTx⟩; exact ⟨rfl,⟨wx,hTx⟩,rfl⟩)))
        refine wpQuiet_nil ?_
        rintro _ ⟨N,rfl⟩
        have hN:=N.h
        generalize N.x=wN at hN ⊢
        clear N k1 z0 z1 z2 z3 m0 m1 m2 m3 m4 P0
        have hbN:Below W.heap.size W wN:=hbel.out.trans (Below.mono hN hbsz)
        go_wp2
        go_roundw
        case rel=>exact ⟨m+1+1,by omega,by go_num,hnext,hbN⟩
        case measure=>simp [intOf]; omega
    ·obtain rfl:k=ts.length:=by omega
     have HGT:Hid (GoodT ts ts.length):=hgood
     obtain ⟨ob,hob⟩:∃ ob,okR es bs=ob:=⟨_,rfl⟩
     have k3:Calls Tryz.prog 46 #[.agg #[.slice ea es.length ec,.slice ba bs.length bc]] wr fun e w'=>e=.returned (.bool ob)/\Below wr.heap.size wr w':=by
      rw [<- hob]
      exact KR.out wr (hb.trans (hbel.out.mono hb.size))
     have HOB:Hid (okR es bs=ob):=hob
     clear hob
     cases ob with
     | false =>
      have hbad:Hid (¬ OkC es bs qs ts):=fun h=>by have:=okR_true.2 h.r; rw [HOB.out] at this; cases this
      go_wp2_with (go_at_call 46; fail)
      refine k3.mono ?_
      rintro e wN ⟨rfl,hb5⟩
      have hbN:Below W.heap.size W wN:=hbel.out.trans (hb5.mono hbsz)
      obtain ⟨c0,c1,c2,c3⟩:=BX.out wN hbN
      clear k3
      go_wp2
      go_ret
      exact ⟨by rw [okC_no (fun h=>hbad.out h)]; rfl,hb.trans (hbN.mono hb.size)⟩
     | true =>
      by_cases h20:(qs.length:Int) <= 20
      ·by_cases h21:(ts.length:Int) <= 20
       ·have hok:Hid (OkC es bs qs ts):=⟨HGQ.out,HGT.out,okR_true.1 HOB.out,by omega,by omega⟩
        go_wp2_with (go_at_call 46; fail)
        refine k3.mono ?_
        rintro e wN ⟨rfl,hb5⟩
        have hbN:Below W.heap.size W wN:=hbel.out.trans (hb5.mono hbsz)
        obtain ⟨c0,c1,c2,c3⟩:=BX.out wN hbN
        clear k3
        go_wp2
        go_ret
        exact ⟨by rw [okC_true.2 hok.out]; first | rfl | simp [h20,h21],hb.trans (hbN.mono hb.size)⟩
       ·have hbad:Hid (¬ OkC es bs qs ts):=fun h=>by have:=h.tl; omega
        go_wp2_with (go_at_call 46; fail)
        refine k3.mono ?_
        rintro e wN ⟨rfl,hb5⟩
        have hbN:Below W.heap.size W wN:=hbel.out.trans (hb5.mono hbsz)
        obtain ⟨c0,c1,c2,c3⟩:=BX.out wN hbN
        clear k3
        go_wp2
        go_ret
        exact ⟨by rw [okC_no (fun h=>hbad.out h)]; first | rfl | simp [h21],hb.trans (hbN.mono hb.size)⟩
      ·have hbad:Hid (¬ OkC es bs qs ts):=fun h=>by have:=h.ql; omega
       go_wp2_with (go_at_call 46; fail)
       refine k3.mono ?_
       rintro e wN ⟨rfl,hb5⟩
       have hbN:Below W.heap.size W wN:=hbel.out.trans (hb5.mono hbsz)
       obtain ⟨c0,c1,c2,c3⟩:=BX.out wN hbN
       clear k3
       go_wp2
       go_ret
       exact ⟨by rw [okC_no (fun h=>hbad.out h)]; first | rfl | simp [h20],hb.trans (hbN.mono hb.size)⟩
end Go.Proofs.YtaoefccgdfcchaaGreat.cos
namespace Go.Proofs.YtaoefccgdfcchaaGreat.coi
open ChangeShapes WideShapes ChangeAt RowKit rc rr ro fl co
def NoT (ts:List su.E) (name:ByteArray):Prop:=¬ 0 <= su.place ts name
def AllQ (qs:List qu.E) (ts:List su.E) (k:Nat):Prop:=∀ (i:Nat) (e:qu.E),i < k->qs[i]?=some e->qsp.okB e.nm e.nx e.rs e.hs=true/\¬ 0 <= su.place ts e.nm
theorem allQ_next {qs:List qu.E} {ts:List su.E} {k:Nat} {e:qu.E} (h:AllQ qs ts k) (hk:qs[k]?=some e) (h1:qsp.okB e.nm e.nx e.rs e.hs=true) (h2:NoT ts e.nm):AllQ qs ts (k+1):=fun i f hi he=>by
 by_cases e0:i=k
 ·subst e0; rw [hk] at he; cases he; exact ⟨h1,h2⟩
 ·exact h i f (by omega) he
def AllT (ts:List su.E) (k:Nat):Prop:=∀ (i:Nat) (e:su.E),i < k->ts[i]?=some e->st.okB e.nm e.lo e.nx e.rs e.hs=true
theorem allT_next {ts:List su.E} {k:Nat} {e:su.E} (h:AllT ts k) (hk:ts[k]?=some e) (h1:st.okB e.nm e.lo e.nx e.rs e.hs=true):AllT ts (k+1):=fun i f hi he=>by
 by_cases e0:i=k
 ·subst e0; rw [hk] at he; cases he; exact h1
 ·exact h i f (by omega) he
theorem impl_ok (es:List Ex) (bs:List Bi) (qs:List qu.E) (ts:List su.E) (ea ba:Option Addr) (gq gt:Nat) (ec bc qc tc:Nat) (w:World) (hql:qs.length <= 1048576) (htl:ts.length <= 1048576) (hQ:qu.R w gq qs) (hT:su.R w gt ts) (kq:(∀ r ∈ qs,∀ V,Below w.heap.size w V->Calls Tryz.prog 59 #[.agg #[.string r.nm,.int .i64 r.nx,.slice r.ra r.rs.length r.rc,.slice r.ha r.hs.length r.hc]] V fun e w'=>e=.returned (.bool (qsp.okB r.nm r.nx r.rs r.hs))/\Below V.heap.size V w')) (kt:(∀ r ∈ ts,∀ V,Below w.heap.size w V->Calls Tryz.prog 60 #[.agg #[.string r.nm,.int .i64 r.lo,.int .i64 r.nx,.slice r.ra r.rs.length r.rc,.slice r.ha r.hs.length r.hc]] V fun e w'=>e=.returned (.bool (st.okB r.nm r.lo r.nx r.rs r.hs))/\Below V.heap.size V w')) (kr:(∀ V,Below w.heap.size w V->Calls Tryz.prog 54 #[.agg #[.slice ea es.length ec,.slice ba bs.length bc]] V fun e w'=>e=.returned (.bool (okR es bs))/\Below V.heap.size V w')) :
  Calls Tryz.prog 22 #[.agg #[.slice ea es.length ec,.slice ba bs.length bc,.slice (some ⟨gq,0,none⟩) qs.length qc,.slice (some ⟨gt,0,none⟩) ts.length tc]] w fun e w'=>e=.returned (.bool (okC es bs qs ts))/\Below w.heap.size w w':=by
 have hb:=fl.bl w (.cells #[.slice ea es.length ec,.slice ba bs.length bc,.slice (some ⟨gq,0,none⟩) qs.length qc,.slice (some ⟨gt,0,none⟩) ts.length tc] 38)
 have hA:=bnew w #[.slice ea es.length ec,.slice ba bs.length bc,.slice (some ⟨gq,0,none⟩) qs.length qc,.slice (some ⟨gt,0,none⟩) ts.length tc] 38
 obtain ⟨W,hW⟩:∃ W,w.alloc (.cells #[.slice ea es.length ec,.slice ba bs.length bc,.slice (some ⟨gq,0,none⟩) qs.length qc,.slice (some ⟨gt,0,none⟩) ts.length tc] 38)=W:=⟨_,rfl⟩
 have hsW:w.heap.size < W.heap.size:=by rw [<- hW]; simp
 rw [hW] at hb hA
 have HQ:Hid (qu.R W gq qs):=hQ.below hb
 have HT:Hid (su.R W gt ts):=hT.below hb
 have HA:Hid (W.heap[w.heap.size]?=some (.cells #[.slice ea es.length ec,.slice ba bs.length bc,.slice (some ⟨gq,0,none⟩) qs.length qc,.slice (some ⟨gt,0,none⟩) ts.length tc] 38 (0,0))):=hA
 have BX:Hid (∀ w',Below W.heap.size W w'->w'.cell? ⟨w.heap.size,0,none⟩=some (.slice ea es.length ec)/\w'.cell? ⟨w.heap.size,1,none⟩=some (.slice ba bs.length bc)/\w'.cell? ⟨w.heap.size,2,none⟩=some (.slice (some ⟨gq,0,none⟩) qs.length qc)/\w'.cell? ⟨w.heap.size,3,none⟩=some (.slice (some ⟨gt,0,none⟩) ts.length tc)):=fun w' h=>by
  have h1:=bstay HA.out h hsW
  exact ⟨bcell h1 rfl,bcell h1 rfl,bcell h1 rfl,bcell h1 rfl⟩
 have KQ:Hid (∀ r ∈ qs,∀ V,Below w.heap.size w V->Calls Tryz.prog 59 #[.agg #[.string r.nm,.int .i64 r.nx,.slice r.ra r.rs.length r.rc,.slice r.ha r.hs.length r.hc]] V fun e w'=>e=.returned (.bool (qsp.okB r.nm r.nx r.rs r.hs))/\Below V.heap.size V w'):=kq
 have KT:Hid (∀ r ∈ ts,∀ V,Below w.heap.size w V->Calls Tryz.prog 60 #[.agg #[.string r.nm,.int .i64 r.lo,.int .i64 r.nx,.slice r.ra r.rs.length r.rc,.slice r.ha r.hs.length r.hc]] V fun e w'=>e=.returned (.bool (st.okB r.nm r.lo r.nx r.rs r.hs))/\Below V.heap.size V w'):=kt
 have KR:Hid (Calls Tryz.prog 54 #[.agg #[.slice ea es.length ec,.slice ba bs.length bc]] W fun e w'=>e=.returned (.bool (okR es bs))/\Below W.heap.size W w'):=kr W hb
 obtain ⟨c0,c1,c2,c3⟩:=BX.out W (Below.refl _ _)
 clear hQ hT hA kq kt kr
 by_cases h20:(20:Int) < (qs.length:Int)
 ·have hbad:Hid (¬ OkC es bs qs ts):=fun h=>by have:=h.ql; omega
  go_enter Tryz.func22,Tryz.ntmps22
  go_wp2
  go_ret
  exact ⟨by rw [okC_no (fun h=>hbad.out h)]; rfl,hb⟩
 by_cases h21:(20:Int) < (ts.length:Int)
 ·have hbad:Hid (¬ OkC es bs qs ts):=fun h=>by have:=h.tl; omega
  go_enter Tryz.func22,Tryz.ntmps22
  go_wp2
  go_ret
  exact ⟨by rw [okC_no (fun h=>hbad.out h)]; rfl,hb⟩
 obtain ⟨ob,hob⟩:∃ ob,okR es bs=ob:=⟨_,rfl⟩
 have k3:=KR.out
 rw [hob] at k3
 have HOB:Hid (okR es bs=ob):=hob
 clear hob
 go_enter Tryz.func22,Tryz.ntmps22
 go_wp2_with (go_at_call 54; fail)
 clear hW
 refine k3.mono ?_
 rintro e w1 ⟨rfl,hb1⟩
 clear k3
 have hs1:=hb1.size
 obtain ⟨c0,c1,c2,c3⟩:=BX.out w1 hb1
 cases ob with
 | false =>
  have hbad:Hid (¬ OkC es bs qs ts):=fun h=>by have:=okR_true.2 h.r; rw [HOB.out] at this; cases this
  go_wp2
  go_ret
  exact ⟨by rw [okC_no (fun h=>hbad.out h)]; rfl,hb.trans (hb1.mono hb.size)⟩
 | true =>
  have k4:=qu.asc_all qs gq qc w1 hql (HQ.out.below hb1)
  go_wp2_with (go_at_call 55; fail)
  refine k4.mono ?_
  rintro e w2 ⟨⟨b4,rfl,h4⟩,hb2⟩
  have H4:Hid (b4=true ↔ qu.Up qs qs.length):=h4
  have hB2:Below W.heap.size W w2:=hb1.trans (hb2.mono hs1)
  have hs2:=hB2.size
  clear k4 h4 c0 c1 c2 c3
  obtain ⟨c0,c1,c2,c3⟩:=BX.out w2 hB2
  cases b4 with
  | false =>
   have hbad:Hid (¬ OkC es bs qs ts):=fun h=>by have:=H4.out.2 h.q.2; cases this
   go_wp2
   go_ret
   exact ⟨by rw [okC_no (fun h=>hbad.out h)]; rfl,hb.trans (hB2.mono hb.size)⟩
  | true =>
   have k5:=su.asc_all ts gt tc w2 htl (HT.out.below hB2)
   go_wp2_with (go_at_call 57; fail)
   refine k5.mono ?_
   rintro e w3 ⟨⟨b5,rfl,h5⟩,hb3⟩
   have H5:Hid (b5=true ↔ su.Up ts ts.length):=h5
   have hB3:Below W.heap.size W w3:=hB2.trans (hb3.mono hs2)
   have hs3:=hB3.size
   clear k5 h5 c0 c1 c2 c3
   obtain ⟨c0,c1,c2,c3⟩:=BX.out w3 hB3
   cases b5 with
   | false =>
    have hbad:Hid (¬ OkC es bs qs ts):=fun h=>by have:=H5.out.2 h.t.2; cases this
    go_wp2
    go_ret
    exact ⟨by rw [okC_no (fun h=>hbad.out h)]; rfl,hb.trans (hB3.mono hb.size)⟩
   | true =>
    have HUQ:Hid (qu.Up qs qs.length):=H4.out.1 (by trivial)
    have HUT:Hid (su.Up ts ts.length):=H5.out.1 (by trivial)
    have HB3:Hid (Below W.heap.size W w3):=hB3
    clear hb1 hb2 hb3 hB2 hB3
    go_wp2
    go_loopw [38] (fun v wr=>∃ k:Nat,k <= qs.length/\v=.int .i64 k/\Hid (AllQ qs ts k)/\Hid (Below W.heap.size W wr)) (fun v _=>qs.length - (intOf v).toNat)
    case atStart=>exact ⟨0,Nat.zero_le _,rfl,fun i e h=>by omega,HB3⟩
    case round =>
     obtain ⟨k,hk,rfl,hgood,hbel⟩:=hrel
     have hbsz:=hbel.out.size
     by_cases hkl:k < qs.length
     ·have i2:(k:Int) < (qs.length:Int):=by omega
      have HG:Hid (qs[k]?=some qs[k]):=List.getElem?_eq_getElem hkl
      have hmem:qs[k] ∈ qs:=List.getElem_mem hkl
      obtain ⟨⟨nm,nx,ra,rc,rs,ha,hc,hs⟩,he⟩:∃ e,qs[k]=e:=⟨_,rfl⟩
      rw [he] at HG hmem
      obtain ⟨a0,a1,a2,a3⟩:=(HQ.out.below hbel.out).2 k _ HG.out
      have hst:Below W.heap.size W (wr.alloc (.cells #[.string nm,.int .i64 nx,.slice ra rs.length rc,.slice ha hs.length hc] 58)):=hbel.out.alloc hbsz _
      have hbx:=bnew wr #[.string nm,.int .i64 nx,.slice ra rs.length rc,.slice ha hs.length hc] 58
      obtain ⟨X,hX⟩:∃ X,wr.alloc (.cells #[.string nm,.int .i64 nx,.slice ra rs.length rc,.slice ha hs.length hc] 58)=X:=⟨_,rfl⟩
      have hXl:wr.heap.size < X.heap.size:=by rw [<- hX]; simp
      rw [hX] at hst hbx
      have HBQ:Hid (X.heap[wr.heap.size]?=some (.cells #[.string nm,.int .i64 nx,.slice ra rs.length rc,.slice ha hs.length hc] 58 (0,0))):=hbx
      have x0:X.cell? ⟨wr.heap.size,0,none⟩=some (.string nm):=bcell hbx rfl
      obtain ⟨_,_,c2,c3⟩:=BX.out X hst
      have k6:=su.find_all ts gt tc nm X htl (HT.out.below hst) HUT.out
      have HKQ:Hid (∀ V,Below w.heap.size w V->Calls Tryz.prog 59 #[.agg #[.string nm,.int .i64 nx,.slice ra rs.length rc,.slice ha hs.length hc]] V fun e w'=>e=.returned (.bool (qsp.okB nm nx rs hs))/\Below V.heap.size V w'):=KQ.out ⟨nm,nx,ra,rc,rs,ha,hc,hs⟩ hmem
      clear he hmem hbx
      go_wp2_with (go_at_call 24; fail)
      clear hX
      refine k6.mono ?_
      rintro e w5 ⟨⟨p,bo,rfl,hp,hbo⟩,hb5⟩
      have hB5:=fl.bt hst hb5
      have hb6:=bstay HBQ.out hb5 hXl
      obtain ⟨y0,y1,y2,y3⟩:=fl.q4 hb6
      have HBO:Hid (bo=true ↔ ∃ (t:Nat) (a:su.E),ts[t]?=some a/\a.nm=nm):=hbo
      have HKQ2:Hid (Calls Tryz.prog 59 #[.agg #[.string nm,.int .i64 nx,.slice ra rs.length rc,.slice ha hs.length hc]] w5 fun e w'=>e=.returned (.bool (qsp.okB nm nx rs hs))/\Below w5.heap.size w5 w'):=HKQ.out w5 (hb.trans (hB5.mono hb.size))
      clear k6 hp hbo hb6 a0 a1 a2 a3 x0 hb5 HKQ
      cases bo with
      | true =>
       have hbad:Hid (¬ OkC es bs qs ts):=fun h=>badQ_at HG.out (su.place_there.2 (HBO.out.1 rfl)) h.q
       go_wp2
       go_ret
       exact ⟨by rw [okC_no (fun h=>hbad.out h)]; rfl,hb.trans (hB5.mono hb.size)⟩
      | false =>
       have HNO:Hid (NoT ts nm):=fun h=>by have:=HBO.out.2 (su.place_there.1 h); cases this
       obtain ⟨ok,hok⟩:∃ ok,qsp.okB nm nx rs hs=ok:=⟨_,rfl⟩
       have k7:=HKQ2.out
       rw [hok] at k7
       have HOK:Hid (qsp.okB nm nx rs hs=ok):=hok
       clear hok
       go_wp2_with (go_at_call 59; fail)
       refine k7.mono ?_
       rintro e w6 ⟨rfl,hb6⟩
       have hB6:=fl.bt hB5 hb6
       clear k7 y0 y1 y2 y3
       cases ok with
       | false =>
        have hbad:Hid (¬ OkC es bs qs ts):=fun h=>badQ_ok HG.out HOK.out h.q
        go_wp2
        go_ret
        exact ⟨by rw [okC_no (fun h=>hbad.out h)]; rfl,hb.trans (hB6.mono hb.size)⟩
       | true =>
        have hnext:Hid (AllQ qs ts (k+1)):=allQ_next hgood.out HG.out HOK.out HNO.out
        go_wp2
        go_roundw
        case rel=>exact ⟨k+1,by omega,by go_num,hnext,hB6⟩
        case measure=>simp [intOf]; omega
     ·obtain rfl:k=qs.length:=by omega
      have HGQ:Hid (GoodQ qs ts qs.length):=⟨hgood.out,HUQ.out⟩
      obtain ⟨c0,c1,c2,c3⟩:=BX.out wr hbel.out
      have HB4:Hid (Below W.heap.size W wr):=hbel
      obtain ⟨w7,hw7⟩:∃ w7,wr=w7:=⟨_,rfl⟩
      subst hw7
      clear hgood hbel hbsz hk
      go_wp2
      go_loopw [60] (fun v wr=>∃ k:Nat,k <= ts.length/\v=.int .i64 k/\Hid (AllT ts k)/\Hid (Below W.heap.size W wr)) (fun v _=>ts.length - (intOf v).toNat)
      case atStart=>exact ⟨0,Nat.zero_le _,rfl,fun i e h=>by omega,HB4⟩
      case round =>
       obtain ⟨k,hk,rfl,hgood,hbel⟩:=hrel
       have hbsz:=hbel.out.size
       by_cases hkl:k < ts.length
       ·have i2:(k:Int) < (ts.length:Int):=by omega
        have HG:Hid (ts[k]?=some ts[k]):=List.getElem?_eq_getElem hkl
        have hmem:ts[k] ∈ ts:=List.getElem_mem hkl
        obtain ⟨⟨nm,lo,nx,ra,rc,rs,ha,hc,hs⟩,he⟩:∃ e,ts[k]=e:=⟨_,rfl⟩
        rw [he] at HG hmem
        obtain ⟨a0,a1,a2,a3,a4⟩:=(HT.out.below hbel.out).2 k _ HG.out
        have hst:Below W.heap.size W (wr.alloc (.cells #[.string nm,.int .i64 lo,.int .i64 nx,.slice ra rs.length rc,.slice ha hs.length hc] 54)):=hbel.out.alloc hbsz _
        have k8:=KT.out ⟨nm,lo,nx,ra,rc,rs,ha,hc,hs⟩ hmem (wr.alloc (.cells #[.string nm,.int .i64 lo,.int .i64 nx,.slice ra rs.length rc,.slice ha hs.length hc] 54)) (hb.trans (hst.mono hb.size))
        simp only at k8
        obtain ⟨ok,hok⟩:∃ ok,st.okB nm lo nx rs hs=ok:=⟨_,rfl⟩
        rw [hok] at k8
        have HOK:Hid (st.okB nm lo nx rs hs=ok):=hok
        clear hok he hmem
        go_wp2_with (go_at_call 60; fail)
        refine k8.mono ?_
        rintro e w6 ⟨rfl,hb6⟩
        have hB6:=fl.bt hst hb6
        clear k8 a0 a1 a2 a3 a4
        cases ok with
        | false =>
         have hbad:Hid (¬ OkC es bs qs ts):=fun h=>badT_ok HG.out HOK.out h.t
         go_wp2
         go_ret
         exact ⟨by rw [okC_no (fun h=>hbad.out h)]; rfl,hb.trans (hB6.mono hb.size)⟩
        | true =>
         have hnext:Hid (AllT ts (k+1)):=allT_next hgood.out HG.out HOK.out
         go_wp2
         go_roundw
         case rel=>exact ⟨k+1,by omega,by go_num,hnext,hB6⟩
         case measure=>simp [intOf]; omega
       ·obtain rfl:k=ts.length:=by omega
        have hok:Hid (OkC es bs qs ts):=⟨HGQ.out,⟨hgood.out,HUT.out⟩,okR_true.1 HOB.out,by omega,by omega⟩
        go_wp2
        go_ret
        exact ⟨by rw [okC_true.2 hok.out]; rfl,hb.trans (hbel.out.mono hb.size)⟩
end Go.Proofs.YtaoefccgdfcchaaGreat.coi
