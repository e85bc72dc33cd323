/- CoreOkImpl. -/
import Derived.Test.YteoojodkkjepeaaGreatKp22
set_option maxRecDepth 100000
set_option maxHeartbeats 8000000
set_option linter.unusedVariables false
namespace Go.Proofs.YteoojodkkjepeaaGreat.coi
open ChangeShapes WideShapes ChangeAt RowKit rc rr ro fl co
def NoT (ts:List su.E)(name:ByteArray):Prop:=¬ 0 <= su.place ts name
def AllQ (qs:List qu.E)(ts:List su.E)(k:Nat):Prop:=∀ (i:Nat) (e:qu.E),i<k->qs[i]?=some e->qsp.okB e.nm e.nx e.rs e.hs=true/\¬ 0 <= su.place ts e.nm
theorem allQ_next {qs:List qu.E}{ts:List su.E}{k:Nat}{e:qu.E}(h:AllQ qs ts k)(hk:qs[k]?=some e)(h1:qsp.okB e.nm e.nx e.rs e.hs=true)(h2:NoT ts e.nm):AllQ qs ts (k+1):=fun i f hi he=>by
 by_cases e0:i=k
 ·subst e0;rw [hk] at he;cases he;exact⟨h1,h2⟩
 ·exact h i f (by omega) he
def AllT (ts:List su.E)(k:Nat):Prop:=∀ (i:Nat) (e:su.E),i<k->ts[i]?=some e->st.okB e.nm e.lo e.nx e.rs e.hs=true
theorem allT_next {ts:List su.E}{k:Nat}{e:su.E}(h:AllT ts k)(hk:ts[k]?=some e)(h1:st.okB e.nm e.lo e.nx e.rs e.hs=true):AllT ts (k+1):=fun i f hi he=>by
 by_cases e0:i=k
 ·subst e0;rw [hk] at he;cases he;exact h1
 ·exact h i f (by omega) he
theorem impl_ok (es:List Ex)(bs:List Bi)(qs:List qu.E)(ts:List su.E)(ea ba:Option Addr)(gq gt:Nat)(ec bc qc tc:Nat)(w:World)(hql:qs.length <= 1048576)(htl:ts.length <= 1048576)(hQ:qu.R w gq qs)(hT:su.R w gt ts)(kq:(∀ r∈qs,∀ V,Below w.heap.size w V->Calls Tryz.prog 46 #[.agg #[.string r.nm,.int .i64 r.nx,.slice r.ra r.rs.length r.rc,.slice r.ha r.hs.length r.hc]] V fun e w'=>e=.returned (.bool (qsp.okB r.nm r.nx r.rs r.hs))/\Below V.heap.size V w'))(kt:(∀ r∈ts,∀ V,Below w.heap.size w V->Calls Tryz.prog 47 #[.agg #[.string r.nm,.int .i64 r.lo,.int .i64 r.nx,.slice r.ra r.rs.length r.rc,.slice r.ha r.hs.length r.hc]] V fun e w'=>e=.returned (.bool (st.okB r.nm r.lo r.nx r.rs r.hs))/\Below V.heap.size V w'))(kr:(∀ V,Below w.heap.size w V->Calls Tryz.prog 40 #[.agg #[.slice ea es.length ec,.slice ba bs.length bc]] V fun e w'=>e=.returned (.bool (okR es bs))/\Below V.heap.size V w')) :
  Calls Tryz.prog 13 #[.agg #[.slice ea es.length ec,.slice ba bs.length bc,.slice (some ⟨gq,0,none⟩) qs.length qc,.slice (some ⟨gt,0,none⟩) ts.length tc]] w fun e w'=>e=.returned (.bool (okC es bs qs ts))/\Below w.heap.size w w':=by
 have hb:=fl.bl w (.cells #[.slice ea es.length ec,.slice ba bs.length bc,.slice (some ⟨gq,0,none⟩) qs.length qc,.slice (some ⟨gt,0,none⟩) ts.length tc] 39)
 have hA:=bnew w #[.slice ea es.length ec,.slice ba bs.length bc,.slice (some ⟨gq,0,none⟩) qs.length qc,.slice (some ⟨gt,0,none⟩) ts.length tc] 39
 obtain⟨W,hW⟩:∃ W,w.alloc (.cells #[.slice ea es.length ec,.slice ba bs.length bc,.slice (some ⟨gq,0,none⟩) qs.length qc,.slice (some ⟨gt,0,none⟩) ts.length tc] 39)=W:=⟨_,rfl⟩
 have hsW:w.heap.size<W.heap.size:=by rw [<- hW];simp
 rw [hW] at hb hA
 have HQ:Hid (qu.R W gq qs):=hQ.below hb
 have HT:Hid (su.R W gt ts):=hT.below hb
 have HA:Hid (W.heap[w.heap.size]?=some (.cells #[.slice ea es.length ec,.slice ba bs.length bc,.slice (some ⟨gq,0,none⟩) qs.length qc,.slice (some ⟨gt,0,none⟩) ts.length tc] 39 (0,0))):=hA
 have BX:Hid (∀ w',Below W.heap.size W w'->w'.cell? ⟨w.heap.size,0,none⟩=some (.slice ea es.length ec)/\w'.cell? ⟨w.heap.size,1,none⟩=some (.slice ba bs.length bc)/\w'.cell? ⟨w.heap.size,2,none⟩=some (.slice (some ⟨gq,0,none⟩) qs.length qc)/\w'.cell? ⟨w.heap.size,3,none⟩=some (.slice (some ⟨gt,0,none⟩) ts.length tc)):=fun w' h=>by
  have h1:=bstay HA.out h hsW
  exact⟨bcell h1 rfl,bcell h1 rfl,bcell h1 rfl,bcell h1 rfl⟩
 have KQ:Hid (∀ r∈qs,∀ V,Below w.heap.size w V->Calls Tryz.prog 46 #[.agg #[.string r.nm,.int .i64 r.nx,.slice r.ra r.rs.length r.rc,.slice r.ha r.hs.length r.hc]] V fun e w'=>e=.returned (.bool (qsp.okB r.nm r.nx r.rs r.hs))/\Below V.heap.size V w'):=kq
 have KT:Hid (∀ r∈ts,∀ V,Below w.heap.size w V->Calls Tryz.prog 47 #[.agg #[.string r.nm,.int .i64 r.lo,.int .i64 r.nx,.slice r.ra r.rs.length r.rc,.slice r.ha r.hs.length r.hc]] V fun e w'=>e=.returned (.bool (st.okB r.nm r.lo r.nx r.rs r.hs))/\Below V.heap.size V w'):=kt
 have KR:Hid (Calls Tryz.prog 40 #[.agg #[.slice ea es.length ec,.slice ba bs.length bc]] W fun e w'=>e=.returned (.bool (okR es bs))/\Below W.heap.size W w'):=kr W hb
 obtain⟨c0,c1,c2,c3⟩:=BX.out W (Below.refl _ _)
 clear hQ hT hA kq kt kr
 by_cases h20:(20:Int)<(qs.length:Int)
 ·have hbad:Hid (¬ OkC es bs qs ts):=fun h=>by have:=h.ql;omega
  go_enter Tryz.func13,Tryz.ntmps13
  go_wp2
  go_ret
  exact⟨by rw [okC_no (fun h=>hbad.out h)];rfl,hb⟩
 by_cases h21:(20:Int)<(ts.length:Int)
 ·have hbad:Hid (¬ OkC es bs qs ts):=fun h=>by have:=h.tl;omega
  go_enter Tryz.func13,Tryz.ntmps13
  go_wp2
  go_ret
  exact⟨by rw [okC_no (fun h=>hbad.out h)];rfl,hb⟩
 obtain⟨ob,hob⟩:∃ ob,okR es bs=ob:=⟨_,rfl⟩
 have k3:=KR.out
 rw [hob] at k3
 have HOB:Hid (okR es bs=ob):=hob
 clear hob
 go_enter Tryz.func13,Tryz.ntmps13
 go_wp2_with (go_at_call 40;fail)
 clear hW
 refine k3.mono ?_
 rintro e w1 ⟨rfl,hb1⟩
 clear k3
 have hs1:=hb1.size
 obtain⟨c0,c1,c2,c3⟩:=BX.out w1 hb1
 cases ob with
 | false =>
  have hbad:Hid (¬ OkC es bs qs ts):=fun h=>by have:=okR_true.2 h.r;rw [HOB.out] at this;cases this
  go_wp2
  go_ret
  exact⟨by rw [okC_no (fun h=>hbad.out h)];rfl,hb.trans (hb1.mono hb.size)⟩
 | true =>
  have k4:=qu.asc_all qs gq qc w1 hql (HQ.out.below hb1)
  go_wp2_with (go_at_call 41;fail)
  refine k4.mono ?_
  rintro e w2 ⟨⟨b4,rfl,h4⟩,hb2⟩
  have H4:Hid (b4=true ↔ qu.Up qs qs.length):=h4
  have hB2:Below W.heap.size W w2:=hb1.trans (hb2.mono hs1)
  have hs2:=hB2.size
  clear k4 h4 c0 c1 c2 c3
  obtain⟨c0,c1,c2,c3⟩:=BX.out w2 hB2
  cases b4 with
  | false =>
   have hbad:Hid (¬ OkC es bs qs ts):=fun h=>by have:=H4.out.2 h.q.2;cases this
   go_wp2
   go_ret
   exact⟨by rw [okC_no (fun h=>hbad.out h)];rfl,hb.trans (hB2.mono hb.size)⟩
  | true =>
   have k5:=su.asc_all ts gt tc w2 htl (HT.out.below hB2)
   go_wp2_with (go_at_call 43;fail)
   refine k5.mono ?_
   rintro e w3 ⟨⟨b5,rfl,h5⟩,hb3⟩
   have H5:Hid (b5=true ↔ su.Up ts ts.length):=h5
   have hB3:Below W.heap.size W w3:=hB2.trans (hb3.mono hs2)
   have hs3:=hB3.size
   clear k5 h5 c0 c1 c2 c3
   obtain⟨c0,c1,c2,c3⟩:=BX.out w3 hB3
   cases b5 with
   | false =>
    have hbad:Hid (¬ OkC es bs qs ts):=fun h=>by have:=H5.out.2 h.t.2;cases this
    go_wp2
    go_ret
    exact⟨by rw [okC_no (fun h=>hbad.out h)];rfl,hb.trans (hB3.mono hb.size)⟩
   | true =>
    have HUQ:Hid (qu.Up qs qs.length):=H4.out.1 (by trivial)
    have HUT:Hid (su.Up ts ts.length):=H5.out.1 (by trivial)
    have HB3:Hid (Below W.heap.size W w3):=hB3
    clear hb1 hb2 hb3 hB2 hB3
    go_wp2
    go_loopw [38] (fun v wr=>∃ k:Nat,k <= qs.length/\v=.int .i64 k/\Hid (AllQ qs ts k)/\Hid (Below W.heap.size W wr)) (fun v _=>qs.length - (intOf v).toNat)
    case atStart=>exact⟨0,Nat.zero_le _,rfl,fun i e h=>by omega,HB3⟩
    case round =>
     obtain⟨k,hk,rfl,hgood,hbel⟩:=hrel
     have hbsz:=hbel.out.size
     by_cases hkl:k<qs.length
     ·have i2:(k:Int)<(qs.length:Int):=by omega
      have HG:Hid (qs[k]?=some qs[k]):=List.getElem?_eq_getElem hkl
      have hmem:qs[k]∈qs:=List.getElem_mem hkl
      obtain⟨⟨nm,nx,ra,rc,rs,ha,hc,hs⟩,he⟩:∃ e,qs[k]=e:=⟨_,rfl⟩
      rw [he] at HG hmem
      obtain⟨a0,a1,a2,a3⟩:=(HQ.out.below hbel.out).2 k _ HG.out
      have hst:Below W.heap.size W (wr.alloc (.cells #[.string nm,.int .i64 nx,.slice ra rs.length rc,.slice ha hs.length hc] 68)):=hbel.out.alloc hbsz _
      have hbx:=bnew wr #[.string nm,.int .i64 nx,.slice ra rs.length rc,.slice ha hs.length hc] 68
      obtain⟨X,hX⟩:∃ X,wr.alloc (.cells #[.string nm,.int .i64 nx,.slice ra rs.length rc,.slice ha hs.length hc] 68)=X:=⟨_,rfl⟩
      have hXl:wr.heap.size<X.heap.size:=by rw [<- hX];simp
      rw [hX] at hst hbx
      have HBQ:Hid (X.heap[wr.heap.size]?=some (.cells #[.string nm,.int .i64 nx,.slice ra rs.length rc,.slice ha hs.length hc] 68 (0,0))):=hbx
      have x0:X.cell? ⟨wr.heap.size,0,none⟩=some (.string nm):=bcell hbx rfl
      obtain⟨_,_,c2,c3⟩:=BX.out X hst
      have k6:=su.find_all ts gt tc nm X htl (HT.out.below hst) HUT.out
      have HKQ:Hid (∀ V,Below w.heap.size w V->Calls Tryz.prog 46 #[.agg #[.string nm,.int .i64 nx,.slice ra rs.length rc,.slice ha hs.length hc]] V fun e w'=>e=.returned (.bool (qsp.okB nm nx rs hs))/\Below V.heap.size V w'):=KQ.out ⟨nm,nx,ra,rc,rs,ha,hc,hs⟩ hmem
      clear he hmem hbx
      go_wp2_with (go_at_call 45;fail)
      clear hX
      refine k6.mono ?_
      rintro e w5 ⟨⟨p,bo,rfl,hp,hbo⟩,hb5⟩
      have hB5:=fl.bt hst hb5
      have hb6:=bstay HBQ.out hb5 hXl
      obtain⟨y0,y1,y2,y3⟩:=fl.q4 hb6
      have HBO:Hid (bo=true ↔ ∃ (t:Nat) (a:su.E),ts[t]?=some a/\a.nm=nm):=hbo
      have HKQ2:Hid (Calls Tryz.prog 46 #[.agg #[.string nm,.int .i64 nx,.slice ra rs.length rc,.slice ha hs.length hc]] w5 fun e w'=>e=.returned (.bool (qsp.okB nm nx rs hs))/\Below w5.heap.size w5 w'):=HKQ.out w5 (hb.trans (hB5.mono hb.size))
      clear k6 hp hbo hb6 a0 a1 a2 a3 x0 hb5 HKQ
      cases bo with
      | true =>
       have hbad:Hid (¬ OkC es bs qs ts):=fun h=>badQ_at HG.out (su.place_there.2 (HBO.out.1 rfl)) h.q
       go_wp2
       go_ret
       exact⟨by rw [okC_no (fun h=>hbad.out h)];rfl,hb.trans (hB5.mono hb.size)⟩
      | false =>
       have HNO:Hid (NoT ts nm):=fun h=>by have:=HBO.out.2 (su.place_there.1 h);cases this
       obtain⟨ok,hok⟩:∃ ok,qsp.okB nm nx rs hs=ok:=⟨_,rfl⟩
       have k7:=HKQ2.out
       rw [hok] at k7
       have HOK:Hid (qsp.okB nm nx rs hs=ok):=hok
       clear hok
       go_wp2_with (go_at_call 46;fail)
       refine k7.mono ?_
       rintro e w6 ⟨rfl,hb6⟩
       have hB6:=fl.bt hB5 hb6
       clear k7 y0 y1 y2 y3
       cases ok with
       | false =>
        have hbad:Hid (¬ OkC es bs qs ts):=fun h=>badQ_ok HG.out HOK.out h.q
        go_wp2
        go_ret
        exact⟨by rw [okC_no (fun h=>hbad.out h)];rfl,hb.trans (hB6.mono hb.size)⟩
       | true =>
        have hnext:Hid (AllQ qs ts (k+1)):=allQ_next hgood.out HG.out HOK.out HNO.out
        go_wp2
        go_roundw
        case rel=>exact⟨k+1,by omega,by go_num,hnext,hB6⟩
        case measure=>simp [intOf];omega
     ·obtain rfl:k=qs.length:=by omega
      have HGQ:Hid (GoodQ qs ts qs.length):=⟨hgood.out,HUQ.out⟩
      obtain⟨c0,c1,c2,c3⟩:=BX.out wr hbel.out
      have HB4:Hid (Below W.heap.size W wr):=hbel
      obtain⟨w7,hw7⟩:∃ w7,wr=w7:=⟨_,rfl⟩
      subst hw7
      clear hgood hbel hbsz hk
      go_wp2
      go_loopw [60] (fun v wr=>∃ k:Nat,k <= ts.length/\v=.int .i64 k/\Hid (AllT ts k)/\Hid (Below W.heap.size W wr)) (fun v _=>ts.length - (intOf v).toNat)
      case atStart=>exact⟨0,Nat.zero_le _,rfl,fun i e h=>by omega,HB4⟩
      case round =>
       obtain⟨k,hk,rfl,hgood,hbel⟩:=hrel
       have hbsz:=hbel.out.size
       by_cases hkl:k<ts.length
       ·have i2:(k:Int)<(ts.length:Int):=by omega
        have HG:Hid (ts[k]?=some ts[k]):=List.getElem?_eq_getElem hkl
        have hmem:ts[k]∈ts:=List.getElem_mem hkl
        obtain⟨⟨nm,lo,nx,ra,rc,rs,ha,hc,hs⟩,he⟩:∃ e,ts[k]=e:=⟨_,rfl⟩
        rw [he] at HG hmem
        obtain⟨a0,a1,a2,a3,a4⟩:=(HT.out.below hbel.out).2 k _ HG.out
        have hst:Below W.heap.size W (wr.alloc (.cells #[.string nm,.int .i64 lo,.int .i64 nx,.slice ra rs.length rc,.slice ha hs.length hc] 74)):=hbel.out.alloc hbsz _
        have k8:=KT.out ⟨nm,lo,nx,ra,rc,rs,ha,hc,hs⟩ hmem (wr.alloc (.cells #[.string nm,.int .i64 lo,.int .i64 nx,.slice ra rs.length rc,.slice ha hs.length hc] 74)) (hb.trans (hst.mono hb.size))
        simp only at k8
        obtain⟨ok,hok⟩:∃ ok,st.okB nm lo nx rs hs=ok:=⟨_,rfl⟩
        rw [hok] at k8
        have HOK:Hid (st.okB nm lo nx rs hs=ok):=hok
        clear hok he hmem
        go_wp2_with (go_at_call 47;fail)
        refine k8.mono ?_
        rintro e w6 ⟨rfl,hb6⟩
        have hB6:=fl.bt hst hb6
        clear k8 a0 a1 a2 a3 a4
        cases ok with
        | false =>
         have hbad:Hid (¬ OkC es bs qs ts):=fun h=>badT_ok HG.out HOK.out h.t
         go_wp2
         go_ret
         exact⟨by rw [okC_no (fun h=>hbad.out h)];rfl,hb.trans (hB6.mono hb.size)⟩
        | true =>
         have hnext:Hid (AllT ts (k+1)):=allT_next hgood.out HG.out HOK.out
         go_wp2
         go_roundw
         case rel=>exact⟨k+1,by omega,by go_num,hnext,hB6⟩
         case measure=>simp [intOf];omega
       ·obtain rfl:k=ts.length:=by omega
        have hok:Hid (OkC es bs qs ts):=⟨HGQ.out,⟨hgood.out,HUT.out⟩,okR_true.1 HOB.out,by omega,by omega⟩
        go_wp2
        go_ret
        exact⟨by rw [okC_true.2 hok.out];rfl,hb.trans (hbel.out.mono hb.size)⟩
end Go.Proofs.YteoojodkkjepeaaGreat.coi
