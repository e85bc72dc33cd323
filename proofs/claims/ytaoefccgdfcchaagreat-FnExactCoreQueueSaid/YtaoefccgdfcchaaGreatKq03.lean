/- MrHeld, FlEntry, MrEntry. -/
import Derived.Test.YtaoefccgdfcchaaGreatKq01
import Derived.Test.YtaoefccgdfcchaaGreatKq02
set_option maxRecDepth 100000
set_option maxHeartbeats 8000000
set_option linter.unusedVariables false
namespace Go.Proofs.YtaoefccgdfcchaaGreat.mrH
open ChangeShapes WideShapes ChangeAt RowKit fl fo fp
def mks (k0 n:Nat):List flH.Hd:=(List.range n).map fun i=>⟨(((k0+7*i):Nat):Int),(((k0+7*i):Nat):Int)+1,⟨(((k0+7*i):Nat):Int)+1+1,sm.mt ((k0+7*i)+3),sm.mt ((k0+7*i)+4),sm.mt ((k0+7*i)+5),decide (((k0+7*i)+6) % 3=0)⟩⟩
theorem mks_at (k0 n k:Nat) (h:k < n):(mks k0 n)[k]?=some ⟨(((k0+7*k):Nat):Int),(((k0+7*k):Nat):Int)+1,⟨(((k0+7*k):Nat):Int)+1+1,sm.mt ((k0+7*k)+3),sm.mt ((k0+7*k)+4),sm.mt ((k0+7*k)+5),decide (((k0+7*k)+6) % 3=0)⟩⟩:=by simp [mks,h]
theorem mks_len (k0 n:Nat):(mks k0 n).length=n:=by simp [mks]
theorem rem6 (m:Nat):(((m:Int)+1+1+1+1+1+1) % 3 == 0)=decide ((m+6) % 3=0):=by
 by_cases h:(m+6) % 3=0
 ·have h2:((m:Int)+1+1+1+1+1+1) % 3=0:=by omega
  simp [h,h2]
 ·have h2:¬ ((m:Int)+1+1+1+1+1+1) % 3=0:=by omega
  simp [h,h2]
theorem mark_all (n g off c k0:Nat) (w:World) (hl:n <= 2000000) (hk0:1 <= k0/\k0 <= 1000000000000) (ha:OwnO flH.c 7 131 w g off (mks k0 n) 0) :
  Calls Tryz.prog 76 #[.slice (some ⟨g,off,none⟩) n c,.int .i64 k0] w fun e w'=>e=.returned (.int .i64 (k0+7*n:Nat))/\Tn w w' (fun k=>k=g)/\OwnO flH.c 7 131 w' g off (mks k0 n) n:=by
 have HA:Hid (OwnO flH.c 7 131 w g off (mks k0 n) 0):=ha
 clear ha
 go_enter Tryz.func76,Tryz.ntmps76
 go_wp2
 go_loopw [1,5] (fun y x wr=>∃ k:Nat,k <= n/\x=.int .i64 k/\y=.int .i64 (k0+7*k:Nat)/\Tn w wr (fun k=>k=g)/\Hid (OwnO flH.c 7 131 wr g off (mks k0 n) k)) (fun _ x _=>n - (intOf x).toNat)
 case atStart=>exact ⟨0,Nat.zero_le _,rfl,rfl,Tn.refl _ _,HA⟩
 case round =>
  obtain ⟨k,hk,rfl,rfl,hbel,hf⟩:=hrel
  by_cases hkl:k < n
  ·have hg:=mks_at k0 n k hkl
   obtain ⟨m,hm⟩:∃ m,k0+7*k=m:=⟨_,rfl⟩
   rw [hm] at hg
   rw [hm]
   have hm9:m <= 20000000000000:=by omega
   have h3_6:=rem6 m
   obtain ⟨gb6,hgb6⟩:∃ gb,decide ((m+6) % 3=0)=gb:=⟨_,rfl⟩
   rw [hgb6] at hg h3_6
   have HG:Hid ((mks k0 n)[k]?=some ⟨(m:Int),(m:Int)+1,⟨(m:Int)+1+1,sm.mt (m+3),sm.mt (m+4),sm.mt (m+5),gb6⟩⟩):=hg
   have HM:Hid (k0+7*k=m):=hm
   have hmt3:=fun W=>sm.mark_text (m+3) W (by omega) (by omega)
   rw [show ((m+3:Nat):Int)=(m:Int)+1+1+1 by omega] at hmt3
   have hmt4:=fun W=>sm.mark_text (m+4) W (by omega) (by omega)
   rw [show ((m+4:Nat):Int)=(m:Int)+1+1+1+1 by omega] at hmt4
   have hmt5:=fun W=>sm.mark_text (m+5) W (by omega) (by omega)
   rw [show ((m+5:Nat):Int)=(m:Int)+1+1+1+1+1 by omega] at hmt5
   have hml:=mks_len k0 n
   have hkm:k < (mks k0 n).length:=by omega
   have HP:Hid (Pt flH.c 7 131 wr g off (mks k0 n) k ⟨(m:Int),(m:Int)+1,⟨(m:Int)+1+1,sm.mt (m+3),sm.mt (m+4),sm.mt (m+5),gb6⟩⟩ 0):=Pt.zero hf.out _
   have HT:Hid (Tn w wr (fun k=>k=g)):=hbel
   clear hm hg hgb6 hf hbel
   obtain ⟨v0,g0⟩:=HP.out.own.at (off+k*7) (by omega)
   have z0:=HP.out.own.free (off+k*7)
   obtain ⟨v1,g1⟩:=HP.out.own.at (off+k*7+1) (by omega)
   have z1:=HP.out.own.free (off+k*7+1)
   obtain ⟨v2,g2⟩:=HP.out.own.at (off+k*7+2) (by omega)
   have z2:=HP.out.own.free (off+k*7+2)
   go_wp2_with (go_at_call 74; fail)
   refine (hmt3 _).mono ?_
   rintro e w3 ⟨rfl,hb3⟩
   have HP':Hid (Pt flH.c 7 131 w3 g off (mks k0 n) k ⟨(m:Int),(m:Int)+1,⟨(m:Int)+1+1,sm.mt (m+3),sm.mt (m+4),sm.mt (m+5),gb6⟩⟩ 3):=(((HP.out.put flH.c_len HG.out (v:=.int .i64 ((m:Int))) rfl).put flH.c_len HG.out (v:=.int .i64 ((m:Int)+1)) rfl).put flH.c_len HG.out (v:=.int .i64 ((m:Int)+1+1)) rfl).below hb3
   have HT':Hid (Tn w w3 (fun k=>k=g)):=(((HT.out.set rfl _ _).set rfl _ _).set rfl _ _).trans (Tn.of _ hb3)
   clear HP HT hmt3 hb3 g0 z0 g1 z1 g2 z2
   have HP:=HP'
   have HT:=HT'
   clear HP' HT'
   obtain ⟨v3,g3⟩:=HP.out.own.at (off+k*7+3) (by omega)
   have z3:=HP.out.own.free (off+k*7+3)
   go_wp2_with (go_at_call 74; fail)
   refine (hmt4 _).mono ?_
   rintro e w4 ⟨rfl,hb4⟩
   have HP':Hid (Pt flH.c 7 131 w4 g off (mks k0 n) k ⟨(m:Int),(m:Int)+1,⟨(m:Int)+1+1,sm.mt (m+3),sm.mt (m+4),sm.mt (m+5),gb6⟩⟩ 4):=(HP.out.put flH.c_len HG.out (v:=.string (sm.mt (m+3))) rfl).below hb4
   have HT':Hid (Tn w w4 (fun k=>k=g)):=(HT.out.set rfl _ _).trans (Tn.of _ hb4)
   clear HP HT hmt4 hb4 g3 z3
   have HP:=HP'
   have HT:=HT'
   clear HP' HT'
   obtain ⟨v4,g4⟩:=HP.out.own.at (off+k*7+4) (by omega)
   have z4:=HP.out.own.free (off+k*7+4)
   go_wp2_with (go_at_call 74; fail)
   refine (hmt5 _).mono ?_
   rintro e w5 ⟨rfl,hb5⟩
   have HP':Hid (Pt flH.c 7 131 w5 g off (mks k0 n) k ⟨(m:Int),(m:Int)+1,⟨(m:Int)+1+1,sm.mt (m+3),sm.mt (m+4),sm.mt (m+5),gb6⟩⟩ 5):=(HP.out.put flH.c_len HG.out (v:=.string (sm.mt (m+4))) rfl).below hb5
   have HT':Hid (Tn w w5 (fun k=>k=g)):=(HT.out.set rfl _ _).trans (Tn.of _ hb5)
   clear HP HT hmt5 hb5 g4 z4
   have HP:=HP'
   have HT:=HT'
   clear HP' HT'
   obtain ⟨v5,g5⟩:=HP.out.own.at (off+k*7+5) (by omega)
   have z5:=HP.out.own.free (off+k*7+5)
   obtain ⟨v6,g6⟩:=HP.out.own.at (off+k*7+6) (by omega)
   have z6:=HP.out.own.free (off+k*7+6)
   have HN:Hid (OwnO flH.c 7 131 ((w5.setCell ⟨g,off+k*7+5,none⟩ (.string (sm.mt (m+5)))).setCell ⟨g,off+k*7+6,none⟩ (.bool gb6)) g off (mks k0 n) (k+1)):=Pt.done flH.c_len ((HP.out.put flH.c_len HG.out (v:=.string (sm.mt (m+5))) rfl).put flH.c_len HG.out (v:=.bool gb6) rfl) HG.out
   go_wp2
   go_roundw
   case rel=>exact ⟨k+1,by omega,by go_num,by rw [show k0+7*(k+1)=m+7 by have:=HM.out; omega]; go_num,((HT.out.set rfl _ _).set rfl _ _),HN⟩
   case measure=>simp [intOf]; omega
  ·obtain rfl:k=n:=by omega
   go_wp2
   go_ret
   exact ⟨rfl,hbel,hf.out⟩
theorem held_all (n g off c k0:Nat) (w:World) (hl:n <= 2000000) (hk0:1 <= k0/\k0 <= 1000000000000) (ha:OwnO flH.c 7 131 w g off (mks k0 n) n) :
  Calls Tryz.prog 82 #[.slice (some ⟨g,off,none⟩) n c,.int .i64 k0] w fun e w'=>e=.returned (.int .i64 (k0+7*n:Nat))/\Below w.heap.size w w':=by
 have HA:Hid (OwnO flH.c 7 131 w g off (mks k0 n) n):=ha
 have hlt:=ha.lt
 clear ha
 go_enter Tryz.func82,Tryz.ntmps82
 go_wp2
 go_loopw [1,5] (fun y x wr=>∃ k:Nat,k <= n/\x=.int .i64 k/\y=.int .i64 (k0+7*k:Nat)/\Below w.heap.size w wr) (fun _ x _=>n - (intOf x).toNat)
 case atStart=>exact ⟨0,Nat.zero_le _,rfl,rfl,Below.refl _ _⟩
 case round =>
  obtain ⟨k,hk,rfl,rfl,hbel⟩:=hrel
  by_cases hkl:k < n
  ·have hg:=mks_at k0 n k hkl
   obtain ⟨m,hm⟩:∃ m,k0+7*k=m:=⟨_,rfl⟩
   rw [hm] at hg
   rw [hm]
   have hm9:m <= 20000000000000:=by omega
   have h3_6:=rem6 m
   obtain ⟨gb6,hgb6⟩:∃ gb,decide ((m+6) % 3=0)=gb:=⟨_,rfl⟩
   rw [hgb6] at hg h3_6
   have HM:Hid (k0+7*k=m):=hm
   have hR:=HA.out.below hbel hlt
   have hltr:=hR.lt
   have cs:∀ (j:Nat) (v:Value),(flH.c ⟨(m:Int),(m:Int)+1,⟨(m:Int)+1+1,sm.mt (m+3),sm.mt (m+4),sm.mt (m+5),gb6⟩⟩)[j]?=some v->wr.cell? ⟨g,off+k*7+j,none⟩=some v:=fun j v hv=>by
    obtain ⟨cur,h1,h2,h3⟩:=hR
    simp only [World.cell?,h1]
    simpa using h3 k _ hkl hg j v hv
   have c0:wr.cell? ⟨g,off+k*7,none⟩=some (.int .i64 ((m:Int))):=cs 0 _ rfl
   have c1:wr.cell? ⟨g,off+k*7+1,none⟩=some (.int .i64 ((m:Int)+1)):=cs 1 _ rfl
   have c2:wr.cell? ⟨g,off+k*7+2,none⟩=some (.int .i64 ((m:Int)+1+1)):=cs 2 _ rfl
   have c3:wr.cell? ⟨g,off+k*7+3,none⟩=some (.string (sm.mt (m+3))):=cs 3 _ rfl
   have c4:wr.cell? ⟨g,off+k*7+4,none⟩=some (.string (sm.mt (m+4))):=cs 4 _ rfl
   have c5:wr.cell? ⟨g,off+k*7+5,none⟩=some (.string (sm.mt (m+5))):=cs 5 _ rfl
   have c6:wr.cell? ⟨g,off+k*7+6,none⟩=some (.bool gb6):=cs 6 _ rfl
   have hmt3:=fun W=>sm.mark_text (m+3) W (by omega) (by omega)
   rw [show ((m+3:Nat):Int)=(m:Int)+1+1+1 by omega] at hmt3
   have hmt4:=fun W=>sm.mark_text (m+4) W (by omega) (by omega)
   rw [show ((m+4:Nat):Int)=(m:Int)+1+1+1+1 by omega] at hmt4
   have hmt5:=fun W=>sm.mark_text (m+5) W (by omega) (by omega)
   rw [show ((m+5:Nat):Int)=(m:Int)+1+1+1+1+1 by omega] at hmt5
   have i2:(k:Int) < (n:Int):=by omega
   clear hm hg hR cs hgb6
   go_wp2
   go_region_with (go_at_call 74; refine (hmt3 _).mono ?_; rintro e w3 ⟨rfl,hb3⟩; have d3_3:w3.cell? ⟨g,off+k*7+3,none⟩=some (.string (sm.mt (m+3))):=(hb3.cell (p:=⟨g,off+k*7+3,none⟩) (by simp only [World.drew] at *; omega)).trans c3; have d3_4:w3.cell? ⟨g,off+k*7+4,none⟩=some (.string (sm.mt (m+4))):=(hb3.cell (p:=⟨g,off+k*7+4,none⟩) (by simp only [World.drew] at *; omega)).trans c4; have d3_5:w3.cell? ⟨g,off+k*7+5,none⟩=some (.string (sm.mt (m+5))):=(hb3.cell (p:=⟨g,off+k*7+5,none⟩) (by simp only [World.drew] at *; omega)).trans c5; have d3_6:w3.cell? ⟨g,off+k*7+6,none⟩=some (.bool gb6):=(hb3.cell (p:=⟨g,off+k*7+6,none⟩) (by simp only [World.drew] at *; omega)).trans c6)
   all_goals go_wp2
   all_goals go_region_with (go_at_call 74; refine (hmt4 _).mono ?_; rintro e w4 ⟨rfl,hb4⟩; have d4_4:w4.cell? ⟨g,off+k*7+4,none⟩=some (.string (sm.mt (m+4))):=(hb4.cell (p:=⟨g,off+k*7+4,none⟩) (by have s3:=hb3.size; simp only [World.drew] at *; omega)).trans d3_4; have d4_5:w4.cell? ⟨g,off+k*7+5,none⟩=some (.string (sm.mt (m+5))):=(hb4.cell (p:=⟨g,off+k*7+5,none⟩) (by have s3:=hb3.size; simp only [World.drew] at *; omega)).trans d3_5; have d4_6:w4.cell? ⟨g,off+k*7+6,none⟩=some (.bool gb6):=(hb4.cell (p:=⟨g,off+k*7+6,none⟩) (by have s3:=hb3.size; simp only [World.drew] at *; omega)).trans d3_6)
   all_goals go_wp2
   all_goals go_region_with (go_at_call 74; refine (hmt5 _).mono ?_; rintro e w5 ⟨rfl,hb5⟩; have d5_5:w5.cell? ⟨g,off+k*7+5,none⟩=some (.string (sm.mt (m+5))):=(hb5.cell (p:=⟨g,off+k*7+5,none⟩) (by have s3:=hb3.size; have s4:=hb4.size; simp only [World.drew] at *; omega)).trans d4_5; have d5_6:w5.cell? ⟨g,off+k*7+6,none⟩=some (.bool gb6):=(hb5.cell (p:=⟨g,off+k*7+6,none⟩) (by have s3:=hb3.size; have s4:=hb4.size; simp only [World.drew] at *; omega)).trans d4_6)
   all_goals go_wp2
   all_goals go_roundw
   all_goals first | exact ⟨k+1,by omega,by go_num,by rw [show k0+7*(k+1)=m+7 by have:=HM.out; omega]; go_num,(((hbel.drew.trans (hb3.mono hbel.size)).drew.trans (hb4.mono (by have h0:=hbel.size; have s3:=hb3.size; simp only [World.drew] at *; omega))).drew.trans (hb5.mono (by have h0:=hbel.size; have s3:=hb3.size; have s4:=hb4.size; simp only [World.drew] at *; omega)))⟩ | (simp [intOf]; omega)
  ·obtain rfl:k=n:=by omega
   go_wp2
   go_ret
   exact ⟨rfl,hbel⟩
end Go.Proofs.YtaoefccgdfcchaaGreat.mrH
namespace Go.Proofs.YtaoefccgdfcchaaGreat.flY
open ChangeShapes WideShapes ChangeAt RowKit fl
structure En where
 o:Int
 t:Int
 b:ByteArray
def c (e:En):List Value:=[.int .i64 e.o,.int .i64 e.t,.string e.b]
theorem c_len (e:En):(c e).length=3:=rfl
def ok (e:En):Prop:=e.b.size <= maxLen
def wt (e:En):Nat:=e.b.size
theorem sz_one (e:En) (left:Int) (w:World) (h0:-1 <= left) (h1:left <= 1048576) (hx:ok e) :
  Calls Tryz.prog 136 #[.agg #[.int .i64 e.o,.int .i64 e.t,.string e.b],.int .i64 left] w fun r w'=>r=.returned (.int .i64 (if left - (wt e:Int) < 0 then -1 else left - (wt e:Int)))/\Below w.heap.size w w':=by
 obtain ⟨fo,ft,fb⟩:=e
 have hx0:=hx
 have hx0:fb.size <= 9223372036854775807:=hx0
 unfold wt
 by_cases g0:left - (fb.size:Int) < 0
 ·rw [if_pos (by show left - ((fb.size:Nat):Int) < 0; omega)]
  go_enter Tryz.func136,Tryz.ntmps136
  go_wp2
  go_ret
  exact ⟨rfl,(Below.refl _ _).alloc (Nat.le_refl _) _⟩
 have he:left - ((fb.size:Nat):Int)=left - (fb.size:Int):=by omega
 rw [if_neg (by show ¬ left - ((fb.size:Nat):Int) < 0; omega)]
 show Calls _ _ _ _ fun r w'=>r=.returned (.int .i64 (left - ((fb.size:Nat):Int)))/\_
 rw [he]
 go_enter Tryz.func136,Tryz.ntmps136
 go_wp2
 go_ret
 exact ⟨rfl,(Below.refl _ _).alloc (Nat.le_refl _) _⟩
theorem sz_all (l:List En) (a:Option Addr) (cap:Nat) (left:Int) (w:World) (hl:l.length <= maxLen) (hx:∀ e ∈ l,ok e) (h0:-1 <= left) (h1:left <= 1048576) (hS:Row c 3 w w.heap.size a l) :
  Calls Tryz.prog 89 #[.slice a l.length cap,.int .i64 left] w fun e w'=>∃ r:Int,e=.returned (.int .i64 r)/\(0 <= r->r=left - l.length - bulk wt l)/\-1 <= r/\r <= 1048576/\Below w.heap.size w w':=by
 have hl':=hl
 unfold maxLen at hl'
 by_cases hneg:left - l.length < 0
 ·go_enter Tryz.func89,Tryz.ntmps89
  go_wp2
  go_ret
  exact ⟨-1,rfl,by omega,by omega,by omega,Below.refl _ _⟩
 rcases hS with rfl | ⟨b,off,rfl,hlt,hc⟩
 ·go_enter Tryz.func89,Tryz.ntmps89
  go_wp2
  refine wp_loop_rounds 1 ?_
  rw [rounds_succ]
  go_wp2
  go_ret
  exact ⟨_,rfl,fun _=>by simp [bulk],by simp at hneg; omega,by simp at hneg; omega,Below.refl _ _⟩
 ·have HC:Hid (∀ (i:Nat) (e:En),l[i]?=some e->∀ (j:Nat) (v:Value),(c e)[j]?=some v->w.cell? ⟨b,off+i*3+j,none⟩=some v):=hc
  have HX:Hid (∀ e ∈ l,ok e):=hx
  clear hc hx
  go_enter Tryz.func89,Tryz.ntmps89
  go_wp2
  go_loopw [1,5] (fun y x wr=>∃ k:Nat,k <= l.length/\x=.int .i64 k/\y=.int .i64 (left - l.length - bulk wt (l.take k))/\0 <= left - l.length - bulk wt (l.take k)/\Below w.heap.size w wr) (fun _ x _=>l.length - (intOf x).toNat)
  case atStart=>exact ⟨0,Nat.zero_le _,rfl,by simp [bulk],by simp [bulk]; omega,Below.refl _ _⟩
  case round =>
   obtain ⟨k,hk,rfl,rfl,hr0,hbel⟩:=hrel
   have hbs:=hbel.size
   by_cases hkl:k < l.length
   ·have HG:Hid (l[k]?=some l[k]):=List.getElem?_eq_getElem hkl
    have hxs:=HX.out l[k] (List.getElem_mem hkl)
    have HBK:Hid (bulk wt (l.take (k+1))=bulk wt (l.take k)+wt l[k]):=bulk_take wt hkl
    obtain ⟨⟨fo,ft,fb⟩,he⟩:∃ e,l[k]=e:=⟨_,rfl⟩
    rw [he] at hxs HBK HG
    have c0:wr.cell? ⟨b,off+k*3,none⟩=some (.int .i64 fo):=(hbel.cell (p:=⟨b,off+k*3,none⟩) hlt).trans (HC.out k _ HG.out 0 _ rfl)
    have c1:wr.cell? ⟨b,off+k*3+1,none⟩=some (.int .i64 ft):=(hbel.cell (p:=⟨b,off+k*3+1,none⟩) hlt).trans (HC.out k _ HG.out 1 _ rfl)
    have c2:wr.cell? ⟨b,off+k*3+2,none⟩=some (.string fb):=(hbel.cell (p:=⟨b,off+k*3+2,none⟩) hlt).trans (HC.out k _ HG.out 2 _ rfl)
    obtain ⟨m,hm⟩:∃ m,bulk wt (l.take k)=m:=⟨_,rfl⟩
    rw [hm] at HBK hr0 ⊢
    have hone:=sz_one ⟨fo,ft,fb⟩ (left - l.length - m) wr (by omega) (by omega) hxs
    obtain ⟨wv,hwt⟩:∃ wv,wt ⟨fo,ft,fb⟩=wv:=⟨_,rfl⟩
    rw [hwt] at hone HBK
    clear hm he hwt hxs
    by_cases hlo:left - l.length - m - wv < 0
    ·rw [if_pos hlo] at hone
     go_wp2_with (go_at_call 136; refine hone.mono ?_; rintro e w1 ⟨rfl,hb1⟩)
     go_ret
     exact ⟨-1,rfl,by omega,by omega,by omega,hbel.trans (hb1.mono hbs)⟩
    ·rw [if_neg hlo] at hone
     go_wp2_with (go_at_call 136; refine hone.mono ?_; rintro e w1 ⟨rfl,hb1⟩)
     go_roundw
     case rel=>exact ⟨k+1,by omega,by go_num,by rw [HBK.out]; congr 1; omega,by rw [HBK.out]; omega,hbel.trans (hb1.mono hbs)⟩
     case measure=>simp [intOf]; omega
   ·obtain rfl:k=l.length:=by omega
    rw [List.take_length] at hr0 ⊢
    go_wp2
    go_ret
    exact ⟨_,rfl,fun _=>rfl,by omega,by omega,hbel⟩
theorem to_one (e:En) (w:World):Calls Tryz.prog 140 #[.agg #[.int .i64 e.o,.int .i64 e.t,.string e.b]] w fun r w'=>r=.returned (.agg #[.int .i64 e.o,.int .i64 e.t,.string e.b])/\Below w.heap.size w w':=by
 obtain ⟨fo,ft,fb⟩:=e
 go_enter Tryz.func140,Tryz.ntmps140
 go_wp2
 refine bodyPost_ret (v:=.agg #[.int .i64 fo,.int .i64 ft,.string fb]) (by simp [results,Tryz.results140,go_sem]) rfl ⟨rfl,?_⟩
 repeat (first | exact Below.refl _ _ | refine Below.setCell ?_ ?_ _ | refine Below.alloc ?_ ?_ _)
 all_goals (simp; try omega)
theorem own_set {T:TypeId} {w:World} {g k:Nat} {l:List En} (fo:Int) (ft:Int) (fb:ByteArray) (h:Own c 3 T w g l k) (he:l[k]?=some ⟨fo,ft,fb⟩):Own c 3 T (((w.setCell ⟨g,k*3,none⟩ (.int .i64 fo)).setCell ⟨g,k*3+1,none⟩ (.int .i64 ft)).setCell ⟨g,k*3+2,none⟩ (.string fb)) g l (k+1):=by
 have:=Own.set c_len h he
 simpa only [setRow,c,Nat.add_assoc,Nat.reduceAdd] using this
theorem info:(Tryz.prog.info? 134).map (fun i=>(i.zero,i.size,i.bytes))=some (some (.agg #[.int .i64 0,.int .i64 0,.string ByteArray.empty]),3,32):=by kernel_rfl
theorem to_all (l:List En) (a:Option Addr) (cap:Nat) (w:World) (hl:l.length <= 1048576) (hS:Row c 3 w w.heap.size a l) :
  Calls Tryz.prog 102 #[.slice a l.length cap] w fun e w'=>e=.returned (.slice (some ⟨w.heap.size,0,none⟩) l.length l.length)/\Own c 3 134 w' w.heap.size l l.length/\Below w.heap.size w w':=by
 obtain ⟨i0,hi,hz0,hz1,hz2⟩:∃ i0,Tryz.prog.info? 134=some i0/\i0.zero=some (.agg #[.int .i64 0,.int .i64 0,.string ByteArray.empty])/\i0.size=3/\i0.bytes=32:=by
  have h:=info
  cases hh:Tryz.prog.info? 134 with
  | none=>rw [hh] at h; cases h
  | some i=>rw [hh] at h; simp at h; exact ⟨i,rfl,h.1,h.2.1,h.2.2⟩
 have hmk:=run_makeSlice (P:=Tryz.prog) w 51 134 i0 _ Tryz.underlying51 hi hz0 .i64 .i64 (l.length:Int) (l.length:Int) (by omega) (Int.le_refl _) (by rw [hz1]; simp; omega) (by rw [hz2]; omega) (by omega)
 rw [hz1,show ((l.length:Int)).toNat=l.length by omega] at hmk
 have hmk2:(Instr.makeSlice 51 (.int .i64 (l.length:Int)) (.int .i64 (l.length:Int))).run Tryz.prog w=.ok (.slice (some ⟨w.heap.size,0,none⟩) l.length l.length) (w.alloc (.cells (madeCells #[.int .i64 0,.int .i64 0,.string ByteArray.empty] (l.length*3)) 134)):=hmk
 have hf0:Own c 3 134 (w.alloc (.cells (madeCells #[.int .i64 0,.int .i64 0,.string ByteArray.empty] (l.length*3)) 134)) w.heap.size l 0:=made #[.int .i64 0,.int .i64 0,.string ByteArray.empty].toList w l rfl
 have hb0:=fl.bl w (.cells (madeCells #[.int .i64 0,.int .i64 0,.string ByteArray.empty] (l.length*3)) 134)
 obtain ⟨W,hW⟩:∃ W,w.alloc (.cells (madeCells #[.int .i64 0,.int .i64 0,.string ByteArray.empty] (l.length*3)) 134)=W:=⟨_,rfl⟩
 rw [hW] at hmk2 hf0 hb0
 have HF0:Hid (Own c 3 134 W w.heap.size l 0):=hf0
 clear hmk hW hf0
 rcases hS with rfl | ⟨b,off,rfl,hlt,hc⟩
 ·have hmk3:(Instr.makeSlice 51 (.int .i64 0) (.int .i64 0)).run Tryz.prog w=.ok (.slice (some ⟨w.heap.size,0,none⟩) 0 0) W:=by simpa using hmk2
  clear hmk2
  go_enter Tryz.func102,Tryz.ntmps102
  go_wp2
  refine wp_loop_rounds 1 ?_
  rw [rounds_succ]
  go_wp2
  go_ret
  exact ⟨rfl,HF0.out,hb0⟩
 ·have HC:Hid (∀ (i:Nat) (e:En),l[i]?=some e->∀ (j:Nat) (v:Value),(c e)[j]?=some v->w.cell? ⟨b,off+i*3+j,none⟩=some v):=hc
  clear hc
  go_enter Tryz.func102,Tryz.ntmps102
  go_wp2
  go_loopw [4] (fun x wr=>∃ k:Nat,k <= l.length/\x=.int .i64 k/\Below w.heap.size w wr/\Hid (Own c 3 134 wr w.heap.size l k)) (fun x _=>l.length - (intOf x).toNat)
  case atStart=>exact ⟨0,Nat.zero_le _,rfl,hb0,HF0⟩
  case round =>
   obtain ⟨k,hk,rfl,hbel,hf⟩:=hrel
   have hbs:=hbel.size
   by_cases hkl:k < l.length
   ·have HG:Hid (l[k]?=some l[k]):=List.getElem?_eq_getElem hkl
    obtain ⟨⟨fo,ft,fb⟩,he⟩:∃ e,l[k]=e:=⟨_,rfl⟩
    rw [he] at HG
    have c0:wr.cell? ⟨b,off+k*3,none⟩=some (.int .i64 fo):=(hbel.cell (p:=⟨b,off+k*3,none⟩) hlt).trans (HC.out k _ HG.out 0 _ rfl)
    have c1:wr.cell? ⟨b,off+k*3+1,none⟩=some (.int .i64 ft):=(hbel.cell (p:=⟨b,off+k*3+1,none⟩) hlt).trans (HC.out k _ HG.out 1 _ rfl)
    have c2:wr.cell? ⟨b,off+k*3+2,none⟩=some (.string fb):=(hbel.cell (p:=⟨b,off+k*3+2,none⟩) hlt).trans (HC.out k _ HG.out 2 _ rfl)
    have hone:=to_one ⟨fo,ft,fb⟩ wr
    have hfl:=hf.out.lt
    clear he
    go_wp2_with (go_at_call 140; refine hone.mono ?_; rintro e w1 ⟨rfl,hb1⟩; have hf1:=hf.out.below hb1 hfl; obtain ⟨v0,g0⟩:=hf1.at (k*3) (by omega); have z0:=hf1.free (k*3); obtain ⟨v1,g1⟩:=hf1.at (k*3+1) (by omega); have z1:=hf1.free (k*3+1); obtain ⟨v2,g2⟩:=hf1.at (k*3+2) (by omega); have z2:=hf1.free (k*3+2); have HN:Hid (Own c 3 134 (((w1.setCell ⟨w.heap.size,k*3,none⟩ (.int .i64 fo)).setCell ⟨w.heap.size,k*3+1,none⟩ (.int .i64 ft)).setCell ⟨w.heap.size,k*3+2,none⟩ (.string fb)) w.heap.size l (k+1)):=own_set fo ft fb hf1 HG.out; clear hf1)
    go_roundw
    case rel=>exact ⟨k+1,by omega,by go_num,((((hbel.trans (hb1.mono hbs)).setCell (Nat.le_refl _) _).setCell (Nat.le_refl _) _).setCell (Nat.le_refl _) _),HN⟩
    case measure=>simp [intOf]; omega
   ·obtain rfl:k=l.length:=by omega
    go_wp2
    go_ret
    exact ⟨rfl,hf.out,hbel⟩
theorem eq_one (e:En) (w:World):Calls Tryz.prog 155 #[.agg #[.int .i64 e.o,.int .i64 e.t,.string e.b],.agg #[.int .i64 e.o,.int .i64 e.t,.string e.b]] w fun r w'=>r=.returned (.bool true)/\Below w.heap.size w w':=by
 obtain ⟨fo,ft,fb⟩:=e
 go_enter Tryz.func155,Tryz.ntmps155
 go_wp2
 go_ret
 exact ⟨rfl,((Below.refl _ _).alloc (Nat.le_refl _) _).alloc (by simp) _⟩
theorem eq_all (l:List En) (a a':Option Addr) (ca ca':Nat) (w:World) (hl:l.length <= maxLen) (ha:Row c 3 w w.heap.size a l) (hb:Row c 3 w w.heap.size a' l) :
  Calls Tryz.prog 132 #[.slice a l.length ca,.slice a' l.length ca'] w fun e w'=>e=.returned (.bool true)/\Below w.heap.size w w':=by
 have hl':=hl
 unfold maxLen at hl'
 have nilw:∀ a a':Option Addr,Calls Tryz.prog 132 #[.slice a 0 ca,.slice a' 0 ca'] w fun e w'=>e=.returned (.bool true)/\Below w.heap.size w w':=fun a a'=>by
  go_enter Tryz.func132,Tryz.ntmps132
  go_wp2
  refine wp_loop_rounds 1 ?_
  rw [rounds_succ]
  go_wp2
  go_ret
  exact ⟨rfl,Below.refl _ _⟩
 rcases ha with rfl | ⟨b,off,rfl,hlt,hc⟩
 ·exact nilw a a'
 rcases hb with rfl | ⟨b',off_,rfl,hlt',hc'⟩
 ·exact nilw _ _
 ·have HA:Hid (∀ (i:Nat) (e:En),l[i]?=some e->∀ (j:Nat) (v:Value),(c e)[j]?=some v->w.cell? ⟨b,off+i*3+j,none⟩=some v):=hc
  have HB:Hid (∀ (i:Nat) (e:En),l[i]?=some e->∀ (j:Nat) (v:Value),(c e)[j]?=some v->w.cell? ⟨b',off_+i*3+j,none⟩=some v):=hc'
  clear hc hc' nilw
  go_enter Tryz.func132,Tryz.ntmps132
  go_wp2
  go_loopw [5] (fun x wr=>∃ k:Nat,k <= l.length/\x=.int .i64 k/\Below w.heap.size w wr) (fun x _=>l.length - (intOf x).toNat)
  case atStart=>exact ⟨0,Nat.zero_le _,rfl,Below.refl _ _⟩
  case round =>
   obtain ⟨k,hk,rfl,hbel⟩:=hrel
   have hbs:=hbel.size
   by_cases hkl:k < l.length
   ·have HG:Hid (l[k]?=some l[k]):=List.getElem?_eq_getElem hkl
    obtain ⟨⟨fo,ft,fb⟩,he⟩:∃ e,l[k]=e:=⟨_,rfl⟩
    rw [he] at HG
    have a0:wr.cell? ⟨b,off+k*3,none⟩=some (.int .i64 fo):=(hbel.cell (p:=⟨b,off+k*3,none⟩) hlt).trans (HA.out k _ HG.out 0 _ rfl)
    have b0:wr.cell? ⟨b',off_+k*3,none⟩=some (.int .i64 fo):=(hbel.cell (p:=⟨b',off_+k*3,none⟩) hlt').trans (HB.out k _ HG.out 0 _ rfl)
    have a1:wr.cell? ⟨b,off+k*3+1,none⟩=some (.int .i64 ft):=(hbel.cell (p:=⟨b,off+k*3+1,none⟩) hlt).trans (HA.out k _ HG.out 1 _ rfl)
    have b1:wr.cell? ⟨b',off_+k*3+1,none⟩=some (.int .i64 ft):=(hbel.cell (p:=⟨b',off_+k*3+1,none⟩) hlt').trans (HB.out k _ HG.out 1 _ rfl)
    have a2:wr.cell? ⟨b,off+k*3+2,none⟩=some (.string fb):=(hbel.cell (p:=⟨b,off+k*3+2,none⟩) hlt).trans (HA.out k _ HG.out 2 _ rfl)
    have b2:wr.cell? ⟨b',off_+k*3+2,none⟩=some (.string fb):=(hbel.cell (p:=⟨b',off_+k*3+2,none⟩) hlt').trans (HB.out k _ HG.out 2 _ rfl)
    have hone:=eq_one ⟨fo,ft,fb⟩ wr.drew
    have i2:(k:Int) < (l.length:Int):=by omega
    clear he
    go_wp2
    go_region_with (go_at_call 155; refine hone.mono ?_; rintro e w1 ⟨rfl,hb1⟩)
    all_goals go_wp2
    all_goals go_roundw
    all_goals first | exact ⟨k+1,by omega,by go_num,hbel.drew.trans (hb1.mono hbs)⟩ | (simp [intOf]; omega)
   ·obtain rfl:k=l.length:=by omega
    go_wp2
    go_ret
    exact ⟨rfl,hbel⟩
end Go.Proofs.YtaoefccgdfcchaaGreat.flY
namespace Go.Proofs.YtaoefccgdfcchaaGreat.mrY
open ChangeShapes WideShapes ChangeAt RowKit fl fo
def mks (k0 n:Nat):List flY.En:=(List.range n).map fun i=>⟨((k0+3*i:Nat):Int),((k0+3*i:Nat):Int)+1,sm.mt (k0+3*i+2)⟩
theorem mks_at (k0 n k:Nat) (h:k < n):(mks k0 n)[k]?=some ⟨((k0+3*k:Nat):Int),((k0+3*k:Nat):Int)+1,sm.mt (k0+3*k+2)⟩:=by simp [mks,h]
theorem mks_len (k0 n:Nat):(mks k0 n).length=n:=by simp [mks]
theorem mid {T:TypeId} {wr w1:World} {g off k:Nat} {l:List flY.En} {v0 v1:Value} (hf:OwnO flY.c 3 T wr g off l k) (hk:k < l.length)
  (hb:Below ((wr.setCell ⟨g,off+k*3,none⟩ v0).setCell ⟨g,off+k*3+1,none⟩ v1).heap.size ((wr.setCell ⟨g,off+k*3,none⟩ v0).setCell ⟨g,off+k*3+1,none⟩ v1) w1) :
  OwnO flY.c 3 T w1 g off l k/\w1.cell? ⟨g,off+k*3,none⟩=some v0/\w1.cell? ⟨g,off+k*3+1,none⟩=some v1:=by
 have hp:=(hf.put flY.c_len (off+k*3) v0 (by omega)).put flY.c_len (off+k*3+1) v1 (by omega)
 have hlt:=hp.lt
 obtain ⟨cur,h1,h2⟩:=hf.cells
 have s1:=bset h1 (off+k*3) v0
 refine ⟨hp.below hb hlt,(hb.cell (p:=⟨g,off+k*3,none⟩) hlt).trans ?_,(hb.cell (p:=⟨g,off+k*3+1,none⟩) hlt).trans ?_⟩
 ·rw [set_ne s1 (by omega)]
  exact set_eq h1 (by omega)
 ·exact set_eq s1 (by rw [Array.size_setIfInBounds]; omega)
theorem last {T:TypeId} {w1:World} {g off k:Nat} {l:List flY.En} {e:flY.En} (hf:OwnO flY.c 3 T w1 g off l k) (he:l[k]?=some e) (c0:w1.cell? ⟨g,off+k*3,none⟩=some (.int .i64 e.o)) (c1:w1.cell? ⟨g,off+k*3+1,none⟩=some (.int .i64 e.t)) :
  OwnO flY.c 3 T (w1.setCell ⟨g,off+k*3+2,none⟩ (.string e.b)) g off l (k+1):=by
 have hk:=(List.getElem?_eq_some_iff.1 he).1
 obtain ⟨cur,h1,h2⟩:=hf.cells
 refine (hf.put flY.c_len (off+k*3+2) (.string e.b) (by omega)).more he (fun j v hv=>?_)
 match j,hv with
 | 0,hv=>cases hv; rw [Nat.add_zero,set_ne h1 (by omega)]; exact c0
 | 1,hv=>cases hv; rw [set_ne h1 (by omega)]; exact c1
 | 2,hv=>cases hv; exact set_eq h1 (by omega)
 | j+3,hv=>simp [flY.c] at hv
theorem mark_all (n g off c k0:Nat) (w:World) (hl:n <= 2000000) (hk0:1 <= k0/\k0 <= 1000000000000) (ha:OwnO flY.c 3 134 w g off (mks k0 n) 0) :
  Calls Tryz.prog 77 #[.slice (some ⟨g,off,none⟩) n c,.int .i64 k0] w fun e w'=>e=.returned (.int .i64 (k0+3*n:Nat))/\Tn w w' (fun k=>k=g)/\OwnO flY.c 3 134 w' g off (mks k0 n) n:=by
 have HA:Hid (OwnO flY.c 3 134 w g off (mks k0 n) 0):=ha
 clear ha
 go_enter Tryz.func77,Tryz.ntmps77
 go_wp2
 go_loopw [1,5] (fun y x wr=>∃ k:Nat,k <= n/\x=.int .i64 k/\y=.int .i64 (k0+3*k:Nat)/\Tn w wr (fun k=>k=g)/\Hid (OwnO flY.c 3 134 wr g off (mks k0 n) k)) (fun _ x _=>n - (intOf x).toNat)
 case atStart=>exact ⟨0,Nat.zero_le _,rfl,rfl,Tn.refl _ _,HA⟩
 case round =>
  obtain ⟨k,hk,rfl,rfl,hbel,hf⟩:=hrel
  by_cases hkl:k < n
  ·have hg:=mks_at k0 n k hkl
   obtain ⟨m,hm⟩:∃ m,k0+3*k=m:=⟨_,rfl⟩
   rw [hm] at hg
   rw [hm]
   have hm9:m <= 9000000000000:=by omega
   have HG:Hid ((mks k0 n)[k]?=some ⟨(m:Int),(m:Int)+1,sm.mt (m+2)⟩):=hg
   have HM:Hid (k0+3*k=m):=hm
   have hmt:=fun W=>sm.mark_text (m+2) W (by omega) (by omega)
   rw [show ((m+2:Nat):Int)=(m:Int)+1+1 by omega] at hmt
   have hml:=mks_len k0 n
   have hkm:k < (mks k0 n).length:=by omega
   obtain ⟨v0,g0⟩:=hf.out.at (off+k*3) (by omega)
   obtain ⟨v1,g1⟩:=hf.out.at (off+k*3+1) (by omega)
   have z0:=hf.out.free (off+k*3)
   have z1:=hf.out.free (off+k*3+1)
   have i2:(k:Int) < (n:Int):=by omega
   clear hm hg
   go_wp2_with (go_at_call 74; refine (hmt _).mono ?_; rintro e w1 ⟨rfl,hb1⟩; obtain ⟨hf1,d0,d1⟩:=mid hf.out hkm hb1; obtain ⟨v2,g2⟩:=hf1.at (off+k*3+2) (by omega); have z2:=hf1.free (off+k*3+2); have HN:Hid (OwnO flY.c 3 134 (w1.setCell ⟨g,off+k*3+2,none⟩ (.string (sm.mt (m+2)))) g off (mks k0 n) (k+1)):=last hf1 HG.out d0 d1; have hT1:Tn w w1 (fun k=>k=g):=((hbel.set rfl _ _).set rfl _ _).trans (Tn.of _ hb1); clear hf1)
   go_roundw
   case rel=>exact ⟨k+1,by omega,by go_num,by rw [show k0+3*(k+1)=m+3 by have:=HM.out; omega]; go_num,hT1.set rfl _ _,HN⟩
   case measure=>simp [intOf]; omega
  ·obtain rfl:k=n:=by omega
   go_wp2
   go_ret
   exact ⟨rfl,hbel,hf.out⟩
theorem held_all (n g off c k0:Nat) (w:World) (hl:n <= 2000000) (hk0:1 <= k0/\k0 <= 1000000000000) (ha:OwnO flY.c 3 134 w g off (mks k0 n) n) :
  Calls Tryz.prog 83 #[.slice (some ⟨g,off,none⟩) n c,.int .i64 k0] w fun e w'=>e=.returned (.int .i64 (k0+3*n:Nat))/\Below w.heap.size w w':=by
 have HA:Hid (OwnO flY.c 3 134 w g off (mks k0 n) n):=ha
 have hlt:=ha.lt
 clear ha
 go_enter Tryz.func83,Tryz.ntmps83
 go_wp2
 go_loopw [1,5] (fun y x wr=>∃ k:Nat,k <= n/\x=.int .i64 k/\y=.int .i64 (k0+3*k:Nat)/\Below w.heap.size w wr) (fun _ x _=>n - (intOf x).toNat)
 case atStart=>exact ⟨0,Nat.zero_le _,rfl,rfl,Below.refl _ _⟩
 case round =>
  obtain ⟨k,hk,rfl,rfl,hbel⟩:=hrel
  by_cases hkl:k < n
  ·have hg:=mks_at k0 n k hkl
   obtain ⟨m,hm⟩:∃ m,k0+3*k=m:=⟨_,rfl⟩
   rw [hm] at hg
   rw [hm]
   have hm9:m <= 9000000000000:=by omega
   have HM:Hid (k0+3*k=m):=hm
   have hR:=HA.out.below hbel hlt
   have hltr:=hR.lt
   have cs:∀ (j:Nat) (v:Value),(flY.c ⟨(m:Int),(m:Int)+1,sm.mt (m+2)⟩)[j]?=some v->wr.cell? ⟨g,off+k*3+j,none⟩=some v:=fun j v hv=>by
    obtain ⟨cur,h1,h2,h3⟩:=hR
    simp only [World.cell?,h1]
    simpa using h3 k _ hkl hg j v hv
   have c0:wr.cell? ⟨g,off+k*3,none⟩=some (.int .i64 (m:Int)):=cs 0 _ rfl
   have c1:wr.cell? ⟨g,off+k*3+1,none⟩=some (.int .i64 ((m:Int)+1)):=cs 1 _ rfl
   have c2:wr.cell? ⟨g,off+k*3+2,none⟩=some (.string (sm.mt (m+2))):=cs 2 _ rfl
   have hmt:=fun W=>sm.mark_text (m+2) W (by omega) (by omega)
   rw [show ((m+2:Nat):Int)=(m:Int)+1+1 by omega] at hmt
   have i2:(k:Int) < (n:Int):=by omega
   clear hm hg hR cs
   go_wp2
   go_region_with (go_at_call 74; refine (hmt _).mono ?_; rintro e w1 ⟨rfl,hb1⟩; have d2:w1.cell? ⟨g,off+k*3+2,none⟩=some (.string (sm.mt (m+2))):=(hb1.cell (by exact hltr)).trans c2)
   all_goals go_wp2
   all_goals go_roundw
   all_goals first | exact ⟨k+1,by omega,by go_num,by rw [show k0+3*(k+1)=m+3 by have:=HM.out; omega]; go_num,hbel.drew.trans (hb1.mono hbel.size)⟩ | (simp [intOf]; omega)
  ·obtain rfl:k=n:=by omega
   go_wp2
   go_ret
   exact ⟨rfl,hbel⟩
end Go.Proofs.YtaoefccgdfcchaaGreat.mrY
