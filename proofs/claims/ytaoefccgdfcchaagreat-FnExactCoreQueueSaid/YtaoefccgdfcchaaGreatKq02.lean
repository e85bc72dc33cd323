/- MrMessage, FlHeld. -/
import Derived.Test.YtaoefccgdfcchaaGreatKq01
set_option maxRecDepth 100000
set_option maxHeartbeats 8000000
set_option linter.unusedVariables false
namespace Go.Proofs.YtaoefccgdfcchaaGreat.mrM
open ChangeShapes WideShapes ChangeAt RowKit fl fo fp
def mks (k0 n:Nat):List flM.Ms:=(List.range n).map fun i=>⟨(((k0+5*i):Nat):Int),sm.mt ((k0+5*i)+1),sm.mt ((k0+5*i)+2),sm.mt ((k0+5*i)+3),decide (((k0+5*i)+4) % 3=0)⟩
theorem mks_at (k0 n k:Nat) (h:k < n):(mks k0 n)[k]?=some ⟨(((k0+5*k):Nat):Int),sm.mt ((k0+5*k)+1),sm.mt ((k0+5*k)+2),sm.mt ((k0+5*k)+3),decide (((k0+5*k)+4) % 3=0)⟩:=by simp [mks,h]
theorem mks_len (k0 n:Nat):(mks k0 n).length=n:=by simp [mks]
theorem rem4 (m:Nat):(((m:Int)+1+1+1+1) % 3 == 0)=decide ((m+4) % 3=0):=by
 by_cases h:(m+4) % 3=0
 ·have h2:((m:Int)+1+1+1+1) % 3=0:=by omega
  simp [h,h2]
 ·have h2:¬ ((m:Int)+1+1+1+1) % 3=0:=by omega
  simp [h,h2]
theorem mark_all (n g off c k0:Nat) (w:World) (hl:n <= 2000000) (hk0:1 <= k0/\k0 <= 1000000000000) (ha:OwnO flM.c 5 129 w g off (mks k0 n) 0) :
  Calls Tryz.prog 75 #[.slice (some ⟨g,off,none⟩) n c,.int .i64 k0] w fun e w'=>e=.returned (.int .i64 (k0+5*n:Nat))/\Tn w w' (fun k=>k=g)/\OwnO flM.c 5 129 w' g off (mks k0 n) n:=by
 have HA:Hid (OwnO flM.c 5 129 w g off (mks k0 n) 0):=ha
 clear ha
 go_enter Tryz.func75,Tryz.ntmps75
 go_wp2
 go_loopw [1,5] (fun y x wr=>∃ k:Nat,k <= n/\x=.int .i64 k/\y=.int .i64 (k0+5*k:Nat)/\Tn w wr (fun k=>k=g)/\Hid (OwnO flM.c 5 129 wr g off (mks k0 n) k)) (fun _ x _=>n - (intOf x).toNat)
 case atStart=>exact ⟨0,Nat.zero_le _,rfl,rfl,Tn.refl _ _,HA⟩
 case round =>
  obtain ⟨k,hk,rfl,rfl,hbel,hf⟩:=hrel
  by_cases hkl:k < n
  ·have hg:=mks_at k0 n k hkl
   obtain ⟨m,hm⟩:∃ m,k0+5*k=m:=⟨_,rfl⟩
   rw [hm] at hg
   rw [hm]
   have hm9:m <= 20000000000000:=by omega
   have h3_4:=rem4 m
   obtain ⟨gb4,hgb4⟩:∃ gb,decide ((m+4) % 3=0)=gb:=⟨_,rfl⟩
   rw [hgb4] at hg h3_4
   have HG:Hid ((mks k0 n)[k]?=some ⟨(m:Int),sm.mt (m+1),sm.mt (m+2),sm.mt (m+3),gb4⟩):=hg
   have HM:Hid (k0+5*k=m):=hm
   have hmt1:=fun W=>sm.mark_text (m+1) W (by omega) (by omega)
   rw [show ((m+1:Nat):Int)=(m:Int)+1 by omega] at hmt1
   have hmt2:=fun W=>sm.mark_text (m+2) W (by omega) (by omega)
   rw [show ((m+2:Nat):Int)=(m:Int)+1+1 by omega] at hmt2
   have hmt3:=fun W=>sm.mark_text (m+3) W (by omega) (by omega)
   rw [show ((m+3:Nat):Int)=(m:Int)+1+1+1 by omega] at hmt3
   have hml:=mks_len k0 n
   have hkm:k < (mks k0 n).length:=by omega
   have HP:Hid (Pt flM.c 5 129 wr g off (mks k0 n) k ⟨(m:Int),sm.mt (m+1),sm.mt (m+2),sm.mt (m+3),gb4⟩ 0):=Pt.zero hf.out _
   have HT:Hid (Tn w wr (fun k=>k=g)):=hbel
   clear hm hg hgb4 hf hbel
   obtain ⟨v0,g0⟩:=HP.out.own.at (off+k*5) (by omega)
   have z0:=HP.out.own.free (off+k*5)
   go_wp2_with (go_at_call 74; fail)
   refine (hmt1 _).mono ?_
   rintro e w1 ⟨rfl,hb1⟩
   have HP':Hid (Pt flM.c 5 129 w1 g off (mks k0 n) k ⟨(m:Int),sm.mt (m+1),sm.mt (m+2),sm.mt (m+3),gb4⟩ 1):=(HP.out.put flM.c_len HG.out (v:=.int .i64 ((m:Int))) rfl).below hb1
   have HT':Hid (Tn w w1 (fun k=>k=g)):=(HT.out.set rfl _ _).trans (Tn.of _ hb1)
   clear HP HT hmt1 hb1 g0 z0
   have HP:=HP'
   have HT:=HT'
   clear HP' HT'
   obtain ⟨v1,g1⟩:=HP.out.own.at (off+k*5+1) (by omega)
   have z1:=HP.out.own.free (off+k*5+1)
   go_wp2_with (go_at_call 74; fail)
   refine (hmt2 _).mono ?_
   rintro e w2 ⟨rfl,hb2⟩
   have HP':Hid (Pt flM.c 5 129 w2 g off (mks k0 n) k ⟨(m:Int),sm.mt (m+1),sm.mt (m+2),sm.mt (m+3),gb4⟩ 2):=(HP.out.put flM.c_len HG.out (v:=.string (sm.mt (m+1))) rfl).below hb2
   have HT':Hid (Tn w w2 (fun k=>k=g)):=(HT.out.set rfl _ _).trans (Tn.of _ hb2)
   clear HP HT hmt2 hb2 g1 z1
   have HP:=HP'
   have HT:=HT'
   clear HP' HT'
   obtain ⟨v2,g2⟩:=HP.out.own.at (off+k*5+2) (by omega)
   have z2:=HP.out.own.free (off+k*5+2)
   go_wp2_with (go_at_call 74; fail)
   refine (hmt3 _).mono ?_
   rintro e w3 ⟨rfl,hb3⟩
   have HP':Hid (Pt flM.c 5 129 w3 g off (mks k0 n) k ⟨(m:Int),sm.mt (m+1),sm.mt (m+2),sm.mt (m+3),gb4⟩ 3):=(HP.out.put flM.c_len HG.out (v:=.string (sm.mt (m+2))) rfl).below hb3
   have HT':Hid (Tn w w3 (fun k=>k=g)):=(HT.out.set rfl _ _).trans (Tn.of _ hb3)
   clear HP HT hmt3 hb3 g2 z2
   have HP:=HP'
   have HT:=HT'
   clear HP' HT'
   obtain ⟨v3,g3⟩:=HP.out.own.at (off+k*5+3) (by omega)
   have z3:=HP.out.own.free (off+k*5+3)
   obtain ⟨v4,g4⟩:=HP.out.own.at (off+k*5+4) (by omega)
   have z4:=HP.out.own.free (off+k*5+4)
   have HN:Hid (OwnO flM.c 5 129 ((w3.setCell ⟨g,off+k*5+3,none⟩ (.string (sm.mt (m+3)))).setCell ⟨g,off+k*5+4,none⟩ (.bool gb4)) g off (mks k0 n) (k+1)):=Pt.done flM.c_len ((HP.out.put flM.c_len HG.out (v:=.string (sm.mt (m+3))) rfl).put flM.c_len HG.out (v:=.bool gb4) rfl) HG.out
   go_wp2
   go_roundw
   case rel=>exact ⟨k+1,by omega,by go_num,by rw [show k0+5*(k+1)=m+5 by have:=HM.out; omega]; go_num,((HT.out.set rfl _ _).set rfl _ _),HN⟩
   case measure=>simp [intOf]; omega
  ·obtain rfl:k=n:=by omega
   go_wp2
   go_ret
   exact ⟨rfl,hbel,hf.out⟩
theorem held_all (n g off c k0:Nat) (w:World) (hl:n <= 2000000) (hk0:1 <= k0/\k0 <= 1000000000000) (ha:OwnO flM.c 5 129 w g off (mks k0 n) n) :
  Calls Tryz.prog 81 #[.slice (some ⟨g,off,none⟩) n c,.int .i64 k0] w fun e w'=>e=.returned (.int .i64 (k0+5*n:Nat))/\Below w.heap.size w w':=by
 have HA:Hid (OwnO flM.c 5 129 w g off (mks k0 n) n):=ha
 have hlt:=ha.lt
 clear ha
 go_enter Tryz.func81,Tryz.ntmps81
 go_wp2
 go_loopw [1,5] (fun y x wr=>∃ k:Nat,k <= n/\x=.int .i64 k/\y=.int .i64 (k0+5*k:Nat)/\Below w.heap.size w wr) (fun _ x _=>n - (intOf x).toNat)
 case atStart=>exact ⟨0,Nat.zero_le _,rfl,rfl,Below.refl _ _⟩
 case round =>
  obtain ⟨k,hk,rfl,rfl,hbel⟩:=hrel
  by_cases hkl:k < n
  ·have hg:=mks_at k0 n k hkl
   obtain ⟨m,hm⟩:∃ m,k0+5*k=m:=⟨_,rfl⟩
   rw [hm] at hg
   rw [hm]
   have hm9:m <= 20000000000000:=by omega
   have h3_4:=rem4 m
   obtain ⟨gb4,hgb4⟩:∃ gb,decide ((m+4) % 3=0)=gb:=⟨_,rfl⟩
   rw [hgb4] at hg h3_4
   have HM:Hid (k0+5*k=m):=hm
   have hR:=HA.out.below hbel hlt
   have hltr:=hR.lt
   have cs:∀ (j:Nat) (v:Value),(flM.c ⟨(m:Int),sm.mt (m+1),sm.mt (m+2),sm.mt (m+3),gb4⟩)[j]?=some v->wr.cell? ⟨g,off+k*5+j,none⟩=some v:=fun j v hv=>by
    obtain ⟨cur,h1,h2,h3⟩:=hR
    simp only [World.cell?,h1]
    simpa using h3 k _ hkl hg j v hv
   have c0:wr.cell? ⟨g,off+k*5,none⟩=some (.int .i64 ((m:Int))):=cs 0 _ rfl
   have c1:wr.cell? ⟨g,off+k*5+1,none⟩=some (.string (sm.mt (m+1))):=cs 1 _ rfl
   have c2:wr.cell? ⟨g,off+k*5+2,none⟩=some (.string (sm.mt (m+2))):=cs 2 _ rfl
   have c3:wr.cell? ⟨g,off+k*5+3,none⟩=some (.string (sm.mt (m+3))):=cs 3 _ rfl
   have c4:wr.cell? ⟨g,off+k*5+4,none⟩=some (.bool gb4):=cs 4 _ rfl
   have hmt1:=fun W=>sm.mark_text (m+1) W (by omega) (by omega)
   rw [show ((m+1:Nat):Int)=(m:Int)+1 by omega] at hmt1
   have hmt2:=fun W=>sm.mark_text (m+2) W (by omega) (by omega)
   rw [show ((m+2:Nat):Int)=(m:Int)+1+1 by omega] at hmt2
   have hmt3:=fun W=>sm.mark_text (m+3) W (by omega) (by omega)
   rw [show ((m+3:Nat):Int)=(m:Int)+1+1+1 by omega] at hmt3
   have i2:(k:Int) < (n:Int):=by omega
   clear hm hg hR cs hgb4
   go_wp2
   go_region_with (go_at_call 74; refine (hmt1 _).mono ?_; rintro e w1 ⟨rfl,hb1⟩; have d1_1:w1.cell? ⟨g,off+k*5+1,none⟩=some (.string (sm.mt (m+1))):=(hb1.cell (p:=⟨g,off+k*5+1,none⟩) (by simp only [World.drew] at *; omega)).trans c1; have d1_2:w1.cell? ⟨g,off+k*5+2,none⟩=some (.string (sm.mt (m+2))):=(hb1.cell (p:=⟨g,off+k*5+2,none⟩) (by simp only [World.drew] at *; omega)).trans c2; have d1_3:w1.cell? ⟨g,off+k*5+3,none⟩=some (.string (sm.mt (m+3))):=(hb1.cell (p:=⟨g,off+k*5+3,none⟩) (by simp only [World.drew] at *; omega)).trans c3; have d1_4:w1.cell? ⟨g,off+k*5+4,none⟩=some (.bool gb4):=(hb1.cell (p:=⟨g,off+k*5+4,none⟩) (by simp only [World.drew] at *; omega)).trans c4)
   all_goals go_wp2
   all_goals go_region_with (go_at_call 74; refine (hmt2 _).mono ?_; rintro e w2 ⟨rfl,hb2⟩; have d2_2:w2.cell? ⟨g,off+k*5+2,none⟩=some (.string (sm.mt (m+2))):=(hb2.cell (p:=⟨g,off+k*5+2,none⟩) (by have s1:=hb1.size; simp only [World.drew] at *; omega)).trans d1_2; have d2_3:w2.cell? ⟨g,off+k*5+3,none⟩=some (.string (sm.mt (m+3))):=(hb2.cell (p:=⟨g,off+k*5+3,none⟩) (by have s1:=hb1.size; simp only [World.drew] at *; omega)).trans d1_3; have d2_4:w2.cell? ⟨g,off+k*5+4,none⟩=some (.bool gb4):=(hb2.cell (p:=⟨g,off+k*5+4,none⟩) (by have s1:=hb1.size; simp only [World.drew] at *; omega)).trans d1_4)
   all_goals go_wp2
   all_goals go_region_with (go_at_call 74; refine (hmt3 _).mono ?_; rintro e w3 ⟨rfl,hb3⟩; have d3_3:w3.cell? ⟨g,off+k*5+3,none⟩=some (.string (sm.mt (m+3))):=(hb3.cell (p:=⟨g,off+k*5+3,none⟩) (by have s1:=hb1.size; have s2:=hb2.size; simp only [World.drew] at *; omega)).trans d2_3; have d3_4:w3.cell? ⟨g,off+k*5+4,none⟩=some (.bool gb4):=(hb3.cell (p:=⟨g,off+k*5+4,none⟩) (by have s1:=hb1.size; have s2:=hb2.size; simp only [World.drew] at *; omega)).trans d2_4)
   all_goals go_wp2
   all_goals go_roundw
   all_goals first | exact ⟨k+1,by omega,by go_num,by rw [show k0+5*(k+1)=m+5 by have:=HM.out; omega]; go_num,(((hbel.drew.trans (hb1.mono hbel.size)).drew.trans (hb2.mono (by have h0:=hbel.size; have s1:=hb1.size; simp only [World.drew] at *; omega))).drew.trans (hb3.mono (by have h0:=hbel.size; have s1:=hb1.size; have s2:=hb2.size; simp only [World.drew] at *; omega)))⟩ | (simp [intOf]; omega)
  ·obtain rfl:k=n:=by omega
   go_wp2
   go_ret
   exact ⟨rfl,hbel⟩
end Go.Proofs.YtaoefccgdfcchaaGreat.mrM
namespace Go.Proofs.YtaoefccgdfcchaaGreat.flH
open ChangeShapes WideShapes ChangeAt RowKit fl flM
structure Hd where
 t:Int
 o:Int
 m:Ms
def c (e:Hd):List Value:=[.int .i64 e.t,.int .i64 e.o,.int .i64 e.m.q,.string e.m.x,.string e.m.k,.string e.m.b,.bool e.m.a]
theorem c_len (e:Hd):(c e).length=7:=rfl
def ok (e:Hd):Prop:=e.m.x.size <= maxLen/\e.m.k.size <= maxLen/\e.m.b.size <= maxLen
def wt (e:Hd):Nat:=e.m.x.size+e.m.k.size+e.m.b.size
theorem sz_one (e:Hd) (left:Int) (w:World) (h0:-1 <= left) (h1:left <= 1048576) (hx:ok e) :
  Calls Tryz.prog 135 #[.agg #[.int .i64 e.t,.int .i64 e.o,.int .i64 e.m.q,.string e.m.x,.string e.m.k,.string e.m.b,.bool e.m.a],.int .i64 left] w fun r w'=>r=.returned (.int .i64 (if left - (wt e:Int) < 0 then -1 else left - (wt e:Int)))/\Below w.heap.size w w':=by
 have hone:=fun W=>flM.sz_one e.m left W h0 h1 hx
 have hwt:wt e=flM.wt e.m:=rfl
 rw [hwt]
 obtain ⟨m,hm⟩:∃ m,flM.wt e.m=m:=⟨_,rfl⟩
 rw [hm] at hone ⊢
 clear hwt hm hx
 obtain ⟨ft,fo,⟨fmq,fmx,fmk,fmb,fma⟩⟩:=e
 by_cases hn:left - (m:Int) < 0
 ·simp only [if_pos hn] at hone ⊢
  go_enter Tryz.func135,Tryz.ntmps135
  go_wp2_with (go_at_call 134; refine (hone _).mono ?_; rintro e w1 ⟨rfl,hb1⟩)
  go_ret
  exact ⟨rfl,((Below.refl _ _).alloc (Nat.le_refl _) _).trans (hb1.mono (by simp))⟩
 ·simp only [if_neg hn] at hone ⊢
  go_enter Tryz.func135,Tryz.ntmps135
  go_wp2_with (go_at_call 134; refine (hone _).mono ?_; rintro e w1 ⟨rfl,hb1⟩)
  go_ret
  exact ⟨rfl,((Below.refl _ _).alloc (Nat.le_refl _) _).trans (hb1.mono (by simp))⟩
theorem sz_all (l:List Hd) (a:Option Addr) (cap:Nat) (left:Int) (w:World) (hl:l.length <= maxLen) (hx:∀ e ∈ l,ok e) (h0:-1 <= left) (h1:left <= 1048576) (hS:Row c 7 w w.heap.size a l) :
  Calls Tryz.prog 88 #[.slice a l.length cap,.int .i64 left] w fun e w'=>∃ r:Int,e=.returned (.int .i64 r)/\(0 <= r->r=left - l.length - bulk wt l)/\-1 <= r/\r <= 1048576/\Below w.heap.size w w':=by
 have hl':=hl
 unfold maxLen at hl'
 by_cases hneg:left - l.length < 0
 ·go_enter Tryz.func88,Tryz.ntmps88
  go_wp2
  go_ret
  exact ⟨-1,rfl,by omega,by omega,by omega,Below.refl _ _⟩
 rcases hS with rfl | ⟨b,off,rfl,hlt,hc⟩
 ·go_enter Tryz.func88,Tryz.ntmps88
  go_wp2
  refine wp_loop_rounds 1 ?_
  rw [rounds_succ]
  go_wp2
  go_ret
  exact ⟨_,rfl,fun _=>by simp [bulk],by simp at hneg; omega,by simp at hneg; omega,Below.refl _ _⟩
 ·have HC:Hid (∀ (i:Nat) (e:Hd),l[i]?=some e->∀ (j:Nat) (v:Value),(c e)[j]?=some v->w.cell? ⟨b,off+i*7+j,none⟩=some v):=hc
  have HX:Hid (∀ e ∈ l,ok e):=hx
  clear hc hx
  go_enter Tryz.func88,Tryz.ntmps88
  go_wp2
  go_loopw [1,5] (fun y x wr=>∃ k:Nat,k <= l.length/\x=.int .i64 k/\y=.int .i64 (left - l.length - bulk wt (l.take k))/\0 <= left - l.length - bulk wt (l.take k)/\Below w.heap.size w wr) (fun _ x _=>l.length - (intOf x).toNat)
  case atStart=>exact ⟨0,Nat.zero_le _,rfl,by simp [bulk],by simp [bulk]; omega,Below.refl _ _⟩
  case round =>
   obtain ⟨k,hk,rfl,rfl,hr0,hbel⟩:=hrel
   have hbs:=hbel.size
   by_cases hkl:k < l.length
   ·have HG:Hid (l[k]?=some l[k]):=List.getElem?_eq_getElem hkl
    have hxs:=HX.out l[k] (List.getElem_mem hkl)
    have HBK:Hid (bulk wt (l.take (k+1))=bulk wt (l.take k)+wt l[k]):=bulk_take wt hkl
    obtain ⟨⟨ft,fo,⟨fmq,fmx,fmk,fmb,fma⟩⟩,he⟩:∃ e,l[k]=e:=⟨_,rfl⟩
    rw [he] at hxs HBK HG
    have c0:wr.cell? ⟨b,off+k*7,none⟩=some (.int .i64 ft):=(hbel.cell (p:=⟨b,off+k*7,none⟩) hlt).trans (HC.out k _ HG.out 0 _ rfl)
    have c1:wr.cell? ⟨b,off+k*7+1,none⟩=some (.int .i64 fo):=(hbel.cell (p:=⟨b,off+k*7+1,none⟩) hlt).trans (HC.out k _ HG.out 1 _ rfl)
    have c2:wr.cell? ⟨b,off+k*7+2,none⟩=some (.int .i64 fmq):=(hbel.cell (p:=⟨b,off+k*7+2,none⟩) hlt).trans (HC.out k _ HG.out 2 _ rfl)
    have c3:wr.cell? ⟨b,off+k*7+3,none⟩=some (.string fmx):=(hbel.cell (p:=⟨b,off+k*7+3,none⟩) hlt).trans (HC.out k _ HG.out 3 _ rfl)
    have c4:wr.cell? ⟨b,off+k*7+4,none⟩=some (.string fmk):=(hbel.cell (p:=⟨b,off+k*7+4,none⟩) hlt).trans (HC.out k _ HG.out 4 _ rfl)
    have c5:wr.cell? ⟨b,off+k*7+5,none⟩=some (.string fmb):=(hbel.cell (p:=⟨b,off+k*7+5,none⟩) hlt).trans (HC.out k _ HG.out 5 _ rfl)
    have c6:wr.cell? ⟨b,off+k*7+6,none⟩=some (.bool fma):=(hbel.cell (p:=⟨b,off+k*7+6,none⟩) hlt).trans (HC.out k _ HG.out 6 _ rfl)
    obtain ⟨m,hm⟩:∃ m,bulk wt (l.take k)=m:=⟨_,rfl⟩
    rw [hm] at HBK hr0 ⊢
    have hone:=sz_one ⟨ft,fo,⟨fmq,fmx,fmk,fmb,fma⟩⟩ (left - l.length - m) wr (by omega) (by omega) hxs
    obtain ⟨wv,hwt⟩:∃ wv,wt ⟨ft,fo,⟨fmq,fmx,fmk,fmb,fma⟩⟩=wv:=⟨_,rfl⟩
    rw [hwt] at hone HBK
    clear hm he hwt hxs
    by_cases hlo:left - l.length - m - wv < 0
    ·rw [if_pos hlo] at hone
     go_wp2_with (go_at_call 135; refine hone.mono ?_; rintro e w1 ⟨rfl,hb1⟩)
     go_ret
     exact ⟨-1,rfl,by omega,by omega,by omega,hbel.trans (hb1.mono hbs)⟩
    ·rw [if_neg hlo] at hone
     go_wp2_with (go_at_call 135; refine hone.mono ?_; rintro e w1 ⟨rfl,hb1⟩)
     go_roundw
     case rel=>exact ⟨k+1,by omega,by go_num,by rw [HBK.out]; congr 1; omega,by rw [HBK.out]; omega,hbel.trans (hb1.mono hbs)⟩
     case measure=>simp [intOf]; omega
   ·obtain rfl:k=l.length:=by omega
    rw [List.take_length] at hr0 ⊢
    go_wp2
    go_ret
    exact ⟨_,rfl,fun _=>rfl,by omega,by omega,hbel⟩
theorem to_one (e:Hd) (w:World):Calls Tryz.prog 139 #[.agg #[.int .i64 e.t,.int .i64 e.o,.int .i64 e.m.q,.string e.m.x,.string e.m.k,.string e.m.b,.bool e.m.a]] w fun r w'=>r=.returned (.agg #[.int .i64 e.t,.int .i64 e.o,.int .i64 e.m.q,.string e.m.x,.string e.m.k,.string e.m.b,.bool e.m.a])/\Below w.heap.size w w':=by
 have hone:=fun W=>flM.to_one e.m W
 obtain ⟨ft,fo,⟨fmq,fmx,fmk,fmb,fma⟩⟩:=e
 go_enter Tryz.func139,Tryz.ntmps139
 go_wp2_with (go_at_call 138; fail)
 refine (hone _).mono ?_
 rintro e w1 ⟨rfl,hb1⟩
 clear hone
 have hO:w1.heap[w.heap.size+1+1]?=some (.cells #[.int .i64 ft,.int .i64 fo,.int .i64 0,.string ByteArray.empty,.string ByteArray.empty,.string ByteArray.empty,.bool false] 131 (0,0)):=by
  refine bstay ?_ hb1 (by simp)
  have:=bnew ((w.alloc (.cells #[.int .i64 ft,.int .i64 fo,.int .i64 fmq,.string fmx,.string fmk,.string fmb,.bool fma] 178)).alloc (.cells #[.int .i64 0,.int .i64 0,.int .i64 0,.string ByteArray.empty,.string ByteArray.empty,.string ByteArray.empty,.bool false] 131)) #[.int .i64 ft,.int .i64 fo,.int .i64 0,.string ByteArray.empty,.string ByteArray.empty,.string ByteArray.empty,.bool false] 131
  rwa [World.size_alloc,World.size_alloc] at this
 have hR:w1.heap[w.heap.size+1]?=some (.cells #[.int .i64 0,.int .i64 0,.int .i64 0,.string ByteArray.empty,.string ByteArray.empty,.string ByteArray.empty,.bool false] 131 (0,0)):=by
  refine bstay ?_ hb1 (by simp)
  have:=bold (bnew (w.alloc (.cells #[.int .i64 ft,.int .i64 fo,.int .i64 fmq,.string fmx,.string fmk,.string fmb,.bool fma] 178)) #[.int .i64 0,.int .i64 0,.int .i64 0,.string ByteArray.empty,.string ByteArray.empty,.string ByteArray.empty,.bool false] 131) (.cells #[.int .i64 ft,.int .i64 fo,.int .i64 0,.string ByteArray.empty,.string ByteArray.empty,.string ByteArray.empty,.bool false] 131)
  rwa [World.size_alloc] at this
 have hB:Below w.heap.size w w1:=((((Below.refl _ _).alloc (Nat.le_refl _) _).alloc (by simp) _).alloc (by simp; omega) _).trans (hb1.mono (by simp; omega))
 clear hb1
 have o0:w1.cell? ⟨w.heap.size+1+1,0,none⟩=some (.int .i64 ft):=bcell hO rfl
 have r0:w1.cell? ⟨w.heap.size+1,0,none⟩=some (.int .i64 0):=bcell hR rfl
 have rf0:=bfree hR 0
 have o1:w1.cell? ⟨w.heap.size+1+1,1,none⟩=some (.int .i64 fo):=bcell hO rfl
 have r1:w1.cell? ⟨w.heap.size+1,1,none⟩=some (.int .i64 0):=bcell hR rfl
 have rf1:=bfree hR 1
 have o2:w1.cell? ⟨w.heap.size+1+1,2,none⟩=some (.int .i64 0):=bcell hO rfl
 have of2:=bfree hO 2
 have r2:w1.cell? ⟨w.heap.size+1,2,none⟩=some (.int .i64 0):=bcell hR rfl
 have rf2:=bfree hR 2
 have o3:w1.cell? ⟨w.heap.size+1+1,3,none⟩=some (.string ByteArray.empty):=bcell hO rfl
 have of3:=bfree hO 3
 have r3:w1.cell? ⟨w.heap.size+1,3,none⟩=some (.string ByteArray.empty):=bcell hR rfl
 have rf3:=bfree hR 3
 have o4:w1.cell? ⟨w.heap.size+1+1,4,none⟩=some (.string ByteArray.empty):=bcell hO rfl
 have of4:=bfree hO 4
 have r4:w1.cell? ⟨w.heap.size+1,4,none⟩=some (.string ByteArray.empty):=bcell hR rfl
 have rf4:=bfree hR 4
 have o5:w1.cell? ⟨w.heap.size+1+1,5,none⟩=some (.string ByteArray.empty):=bcell hO rfl
 have of5:=bfree hO 5
 have r5:w1.cell? ⟨w.heap.size+1,5,none⟩=some (.string ByteArray.empty):=bcell hR rfl
 have rf5:=bfree hR 5
 have o6:w1.cell? ⟨w.heap.size+1+1,6,none⟩=some (.bool false):=bcell hO rfl
 have of6:=bfree hO 6
 have r6:w1.cell? ⟨w.heap.size+1,6,none⟩=some (.bool false):=bcell hR rfl
 have rf6:=bfree hR 6
 clear hO hR
 go_wp2
 refine bodyPost_ret (v:=.agg #[.int .i64 ft,.int .i64 fo,.int .i64 fmq,.string fmx,.string fmk,.string fmb,.bool fma]) (by simp [results,Tryz.results139,go_sem,r0,r1,r2,r3,r4,r5,r6]) rfl ⟨rfl,?_⟩
 exact ((((((((((((hB.setCell (by show w.heap.size <= w.heap.size+1+1; omega) _).setCell (by show w.heap.size <= w.heap.size+1+1; omega) _).setCell (by show w.heap.size <= w.heap.size+1+1; omega) _).setCell (by show w.heap.size <= w.heap.size+1+1; omega) _).setCell (by show w.heap.size <= w.heap.size+1+1; omega) _).setCell (by show w.heap.size <= w.heap.size+1; omega) _).setCell (by show w.heap.size <= w.heap.size+1; omega) _).setCell (by show w.heap.size <= w.heap.size+1; omega) _).setCell (by show w.heap.size <= w.heap.size+1; omega) _).setCell (by show w.heap.size <= w.heap.size+1; omega) _).setCell (by show w.heap.size <= w.heap.size+1; omega) _).setCell (by show w.heap.size <= w.heap.size+1; omega) _)
theorem own_set {T:TypeId} {w:World} {g k:Nat} {l:List Hd} (ft:Int) (fo:Int) (fmq:Int) (fmx:ByteArray) (fmk:ByteArray) (fmb:ByteArray) (fma:Bool) (h:Own c 7 T w g l k) (he:l[k]?=some ⟨ft,fo,⟨fmq,fmx,fmk,fmb,fma⟩⟩):Own c 7 T (((((((w.setCell ⟨g,k*7,none⟩ (.int .i64 ft)).setCell ⟨g,k*7+1,none⟩ (.int .i64 fo)).setCell ⟨g,k*7+2,none⟩ (.int .i64 fmq)).setCell ⟨g,k*7+3,none⟩ (.string fmx)).setCell ⟨g,k*7+4,none⟩ (.string fmk)).setCell ⟨g,k*7+5,none⟩ (.string fmb)).setCell ⟨g,k*7+6,none⟩ (.bool fma)) g l (k+1):=by
 have:=Own.set c_len h he
 simpa only [setRow,c,Nat.add_assoc,Nat.reduceAdd] using this
theorem info:(Tryz.prog.info? 131).map (fun i=>(i.zero,i.size,i.bytes))=some (some (.agg #[.int .i64 0,.int .i64 0,.int .i64 0,.string ByteArray.empty,.string ByteArray.empty,.string ByteArray.empty,.bool false]),7,80):=by kernel_rfl
theorem to_all (l:List Hd) (a:Option Addr) (cap:Nat) (w:World) (hl:l.length <= 1048576) (hS:Row c 7 w w.heap.size a l) :
  Calls Tryz.prog 101 #[.slice a l.length cap] w fun e w'=>e=.returned (.slice (some ⟨w.heap.size,0,none⟩) l.length l.length)/\Own c 7 131 w' w.heap.size l l.length/\Below w.heap.size w w':=by
 obtain ⟨i0,hi,hz0,hz1,hz2⟩:∃ i0,Tryz.prog.info? 131=some i0/\i0.zero=some (.agg #[.int .i64 0,.int .i64 0,.int .i64 0,.string ByteArray.empty,.string ByteArray.empty,.string ByteArray.empty,.bool false])/\i0.size=7/\i0.bytes=80:=by
  have h:=info
  cases hh:Tryz.prog.info? 131 with
  | none=>rw [hh] at h; cases h
  | some i=>rw [hh] at h; simp at h; exact ⟨i,rfl,h.1,h.2.1,h.2.2⟩
 have hmk:=run_makeSlice (P:=Tryz.prog) w 56 131 i0 _ Tryz.underlying56 hi hz0 .i64 .i64 (l.length:Int) (l.length:Int) (by omega) (Int.le_refl _) (by rw [hz1]; simp; omega) (by rw [hz2]; omega) (by omega)
 rw [hz1,show ((l.length:Int)).toNat=l.length by omega] at hmk
 have hmk2:(Instr.makeSlice 56 (.int .i64 (l.length:Int)) (.int .i64 (l.length:Int))).run Tryz.prog w=.ok (.slice (some ⟨w.heap.size,0,none⟩) l.length l.length) (w.alloc (.cells (madeCells #[.int .i64 0,.int .i64 0,.int .i64 0,.string ByteArray.empty,.string ByteArray.empty,.string ByteArray.empty,.bool false] (l.length*7)) 131)):=hmk
 have hf0:Own c 7 131 (w.alloc (.cells (madeCells #[.int .i64 0,.int .i64 0,.int .i64 0,.string ByteArray.empty,.string ByteArray.empty,.string ByteArray.empty,.bool false] (l.length*7)) 131)) w.heap.size l 0:=made #[.int .i64 0,.int .i64 0,.int .i64 0,.string ByteArray.empty,.string ByteArray.empty,.string ByteArray.empty,.bool false].toList w l rfl
 have hb0:=fl.bl w (.cells (madeCells #[.int .i64 0,.int .i64 0,.int .i64 0,.string ByteArray.empty,.string ByteArray.empty,.string ByteArray.empty,.bool false] (l.length*7)) 131)
 obtain ⟨W,hW⟩:∃ W,w.alloc (.cells (madeCells #[.int .i64 0,.int .i64 0,.int .i64 0,.string ByteArray.empty,.string ByteArray.empty,.string ByteArray.empty,.bool false] (l.length*7)) 131)=W:=⟨_,rfl⟩
 rw [hW] at hmk2 hf0 hb0
 have HF0:Hid (Own c 7 131 W w.heap.size l 0):=hf0
 clear hmk hW hf0
 rcases hS with rfl | ⟨b,off,rfl,hlt,hc⟩
 ·have hmk3:(Instr.makeSlice 56 (.int .i64 0) (.int .i64 0)).run Tryz.prog w=.ok (.slice (some ⟨w.heap.size,0,none⟩) 0 0) W:=by simpa using hmk2
  clear hmk2
  go_enter Tryz.func101,Tryz.ntmps101
  go_wp2
  refine wp_loop_rounds 1 ?_
  rw [rounds_succ]
  go_wp2
  go_ret
  exact ⟨rfl,HF0.out,hb0⟩
 ·have HC:Hid (∀ (i:Nat) (e:Hd),l[i]?=some e->∀ (j:Nat) (v:Value),(c e)[j]?=some v->w.cell? ⟨b,off+i*7+j,none⟩=some v):=hc
  clear hc
  go_enter Tryz.func101,Tryz.ntmps101
  go_wp2
  go_loopw [4] (fun x wr=>∃ k:Nat,k <= l.length/\x=.int .i64 k/\Below w.heap.size w wr/\Hid (Own c 7 131 wr w.heap.size l k)) (fun x _=>l.length - (intOf x).toNat)
  case atStart=>exact ⟨0,Nat.zero_le _,rfl,hb0,HF0⟩
  case round =>
   obtain ⟨k,hk,rfl,hbel,hf⟩:=hrel
   have hbs:=hbel.size
   by_cases hkl:k < l.length
   ·have HG:Hid (l[k]?=some l[k]):=List.getElem?_eq_getElem hkl
    obtain ⟨⟨ft,fo,⟨fmq,fmx,fmk,fmb,fma⟩⟩,he⟩:∃ e,l[k]=e:=⟨_,rfl⟩
    rw [he] at HG
    have c0:wr.cell? ⟨b,off+k*7,none⟩=some (.int .i64 ft):=(hbel.cell (p:=⟨b,off+k*7,none⟩) hlt).trans (HC.out k _ HG.out 0 _ rfl)
    have c1:wr.cell? ⟨b,off+k*7+1,none⟩=some (.int .i64 fo):=(hbel.cell (p:=⟨b,off+k*7+1,none⟩) hlt).trans (HC.out k _ HG.out 1 _ rfl)
    have c2:wr.cell? ⟨b,off+k*7+2,none⟩=some (.int .i64 fmq):=(hbel.cell (p:=⟨b,off+k*7+2,none⟩) hlt).trans (HC.out k _ HG.out 2 _ rfl)
    have c3:wr.cell? ⟨b,off+k*7+3,none⟩=some (.string fmx):=(hbel.cell (p:=⟨b,off+k*7+3,none⟩) hlt).trans (HC.out k _ HG.out 3 _ rfl)
    have c4:wr.cell? ⟨b,off+k*7+4,none⟩=some (.string fmk):=(hbel.cell (p:=⟨b,off+k*7+4,none⟩) hlt).trans (HC.out k _ HG.out 4 _ rfl)
    have c5:wr.cell? ⟨b,off+k*7+5,none⟩=some (.string fmb):=(hbel.cell (p:=⟨b,off+k*7+5,none⟩) hlt).trans (HC.out k _ HG.out 5 _ rfl)
    have c6:wr.cell? ⟨b,off+k*7+6,none⟩=some (.bool fma):=(hbel.cell (p:=⟨b,off+k*7+6,none⟩) hlt).trans (HC.out k _ HG.out 6 _ rfl)
    have hone:=to_one ⟨ft,fo,⟨fmq,fmx,fmk,fmb,fma⟩⟩ wr
    have hfl:=hf.out.lt
    clear he
    go_wp2_with (go_at_call 139; refine hone.mono ?_; rintro e w1 ⟨rfl,hb1⟩; have hf1:=hf.out.below hb1 hfl; obtain ⟨v0,g0⟩:=hf1.at (k*7) (by omega); have z0:=hf1.free (k*7); obtain ⟨v1,g1⟩:=hf1.at (k*7+1) (by omega); have z1:=hf1.free (k*7+1); obtain ⟨v2,g2⟩:=hf1.at (k*7+2) (by omega); have z2:=hf1.free (k*7+2); obtain ⟨v3,g3⟩:=hf1.at (k*7+3) (by omega); have z3:=hf1.free (k*7+3); obtain ⟨v4,g4⟩:=hf1.at (k*7+4) (by omega); have z4:=hf1.free (k*7+4); obtain ⟨v5,g5⟩:=hf1.at (k*7+5) (by omega); have z5:=hf1.free (k*7+5); obtain ⟨v6,g6⟩:=hf1.at (k*7+6) (by omega); have z6:=hf1.free (k*7+6); have HN:Hid (Own c 7 131 (((((((w1.setCell ⟨w.heap.size,k*7,none⟩ (.int .i64 ft)).setCell ⟨w.heap.size,k*7+1,none⟩ (.int .i64 fo)).setCell ⟨w.heap.size,k*7+2,none⟩ (.int .i64 fmq)).setCell ⟨w.heap.size,k*7+3,none⟩ (.string fmx)).setCell ⟨w.heap.size,k*7+4,none⟩ (.string fmk)).setCell ⟨w.heap.size,k*7+5,none⟩ (.string fmb)).setCell ⟨w.heap.size,k*7+6,none⟩ (.bool fma)) w.heap.size l (k+1)):=own_set ft fo fmq fmx fmk fmb fma hf1 HG.out; clear hf1)
    go_roundw
    case rel=>exact ⟨k+1,by omega,by go_num,((((((((hbel.trans (hb1.mono hbs)).setCell (Nat.le_refl _) _).setCell (Nat.le_refl _) _).setCell (Nat.le_refl _) _).setCell (Nat.le_refl _) _).setCell (Nat.le_refl _) _).setCell (Nat.le_refl _) _).setCell (Nat.le_refl _) _),HN⟩
    case measure=>simp [intOf]; omega
   ·obtain rfl:k=l.length:=by omega
    go_wp2
    go_ret
    exact ⟨rfl,hf.out,hbel⟩
theorem eq_one (e:Hd) (w:World):Calls Tryz.prog 154 #[.agg #[.int .i64 e.t,.int .i64 e.o,.int .i64 e.m.q,.string e.m.x,.string e.m.k,.string e.m.b,.bool e.m.a],.agg #[.int .i64 e.t,.int .i64 e.o,.int .i64 e.m.q,.string e.m.x,.string e.m.k,.string e.m.b,.bool e.m.a]] w fun r w'=>r=.returned (.bool true)/\Below w.heap.size w w':=by
 have hone:=fun W=>flM.eq_one e.m W
 obtain ⟨ft,fo,⟨fmq,fmx,fmk,fmb,fma⟩⟩:=e
 go_enter Tryz.func154,Tryz.ntmps154
 go_wp2_with (go_at_call 153; refine (hone _).mono ?_; rintro e w1 ⟨rfl,hb1⟩)
 go_ret
 exact ⟨rfl,(((Below.refl _ _).alloc (Nat.le_refl _) _).alloc (by simp) _).trans (hb1.mono (by simp; omega))⟩
theorem eq_all (l:List Hd) (a a':Option Addr) (ca ca':Nat) (w:World) (hl:l.length <= maxLen) (ha:Row c 7 w w.heap.size a l) (hb:Row c 7 w w.heap.size a' l) :
  Calls Tryz.prog 131 #[.slice a l.length ca,.slice a' l.length ca'] w fun e w'=>e=.returned (.bool true)/\Below w.heap.size w w':=by
 have hl':=hl
 unfold maxLen at hl'
 have nilw:∀ a a':Option Addr,Calls Tryz.prog 131 #[.slice a 0 ca,.slice a' 0 ca'] w fun e w'=>e=.returned (.bool true)/\Below w.heap.size w w':=fun a a'=>by
  go_enter Tryz.func131,Tryz.ntmps131
  go_wp2
  refine wp_loop_rounds 1 ?_
  rw [rounds_succ]
  go_wp2
  go_ret
  exact ⟨rfl,Below.refl _ _⟩
 rcases ha with rfl | ⟨b,off,rfl,hlt,hc⟩
 ·exact nilw a a'
 rcases hb with rfl | ⟨b',off_,rfl,hlt',hc'⟩
 ·exact nilw _ _
 ·have HA:Hid (∀ (i:Nat) (e:Hd),l[i]?=some e->∀ (j:Nat) (v:Value),(c e)[j]?=some v->w.cell? ⟨b,off+i*7+j,none⟩=some v):=hc
  have HB:Hid (∀ (i:Nat) (e:Hd),l[i]?=some e->∀ (j:Nat) (v:Value),(c e)[j]?=some v->w.cell? ⟨b',off_+i*7+j,none⟩=some v):=hc'
  clear hc hc' nilw
  go_enter Tryz.func131,Tryz.ntmps131
  go_wp2
  go_loopw [5] (fun x wr=>∃ k:Nat,k <= l.length/\x=.int .i64 k/\Below w.heap.size w wr) (fun x _=>l.length - (intOf x).toNat)
  case atStart=>exact ⟨0,Nat.zero_le _,rfl,Below.refl _ _⟩
  case round =>
   obtain ⟨k,hk,rfl,hbel⟩:=hrel
   have hbs:=hbel.size
   by_cases hkl:k < l.length
   ·have HG:Hid (l[k]?=some l[k]):=List.getElem?_eq_getElem hkl
    obtain ⟨⟨ft,fo,⟨fmq,fmx,fmk,fmb,fma⟩⟩,he⟩:∃ e,l[k]=e:=⟨_,rfl⟩
    rw [he] at HG
    have a0:wr.cell? ⟨b,off+k*7,none⟩=some (.int .i64 ft):=(hbel.cell (p:=⟨b,off+k*7,none⟩) hlt).trans (HA.out k _ HG.out 0 _ rfl)
    have b0:wr.cell? ⟨b',off_+k*7,none⟩=some (.int .i64 ft):=(hbel.cell (p:=⟨b',off_+k*7,none⟩) hlt').trans (HB.out k _ HG.out 0 _ rfl)
    have a1:wr.cell? ⟨b,off+k*7+1,none⟩=some (.int .i64 fo):=(hbel.cell (p:=⟨b,off+k*7+1,none⟩) hlt).trans (HA.out k _ HG.out 1 _ rfl)
    have b1:wr.cell? ⟨b',off_+k*7+1,none⟩=some (.int .i64 fo):=(hbel.cell (p:=⟨b',off_+k*7+1,none⟩) hlt').trans (HB.out k _ HG.out 1 _ rfl)
    have a2:wr.cell? ⟨b,off+k*7+2,none⟩=some (.int .i64 fmq):=(hbel.cell (p:=⟨b,off+k*7+2,none⟩) hlt).trans (HA.out k _ HG.out 2 _ rfl)
    have b2:wr.cell? ⟨b',off_+k*7+2,none⟩=some (.int .i64 fmq):=(hbel.cell (p:=⟨b',off_+k*7+2,none⟩) hlt').trans (HB.out k _ HG.out 2 _ rfl)
    have a3:wr.cell? ⟨b,off+k*7+3,none⟩=some (.string fmx):=(hbel.cell (p:=⟨b,off+k*7+3,none⟩) hlt).trans (HA.out k _ HG.out 3 _ rfl)
    have b3:wr.cell? ⟨b',off_+k*7+3,none⟩=some (.string fmx):=(hbel.cell (p:=⟨b',off_+k*7+3,none⟩) hlt').trans (HB.out k _ HG.out 3 _ rfl)
    have a4:wr.cell? ⟨b,off+k*7+4,none⟩=some (.string fmk):=(hbel.cell (p:=⟨b,off+k*7+4,none⟩) hlt).trans (HA.out k _ HG.out 4 _ rfl)
    have b4:wr.cell? ⟨b',off_+k*7+4,none⟩=some (.string fmk):=(hbel.cell (p:=⟨b',off_+k*7+4,none⟩) hlt').trans (HB.out k _ HG.out 4 _ rfl)
    have a5:wr.cell? ⟨b,off+k*7+5,none⟩=some (.string fmb):=(hbel.cell (p:=⟨b,off+k*7+5,none⟩) hlt).trans (HA.out k _ HG.out 5 _ rfl)
    have b5:wr.cell? ⟨b',off_+k*7+5,none⟩=some (.string fmb):=(hbel.cell (p:=⟨b',off_+k*7+5,none⟩) hlt').trans (HB.out k _ HG.out 5 _ rfl)
    have a6:wr.cell? ⟨b,off+k*7+6,none⟩=some (.bool fma):=(hbel.cell (p:=⟨b,off+k*7+6,none⟩) hlt).trans (HA.out k _ HG.out 6 _ rfl)
    have b6:wr.cell? ⟨b',off_+k*7+6,none⟩=some (.bool fma):=(hbel.cell (p:=⟨b',off_+k*7+6,none⟩) hlt').trans (HB.out k _ HG.out 6 _ rfl)
    have hone:=eq_one ⟨ft,fo,⟨fmq,fmx,fmk,fmb,fma⟩⟩ wr.drew
    have i2:(k:Int) < (l.length:Int):=by omega
    clear he
    go_wp2
    go_region_with (go_at_call 154; refine hone.mono ?_; rintro e w1 ⟨rfl,hb1⟩)
    all_goals go_wp2
    all_goals go_roundw
    all_goals first | exact ⟨k+1,by omega,by go_num,hbel.drew.trans (hb1.mono hbs)⟩ | (simp [intOf]; omega)
   ·obtain rfl:k=l.length:=by omega
    go_wp2
    go_ret
    exact ⟨rfl,hbel⟩
end Go.Proofs.YtaoefccgdfcchaaGreat.flH
