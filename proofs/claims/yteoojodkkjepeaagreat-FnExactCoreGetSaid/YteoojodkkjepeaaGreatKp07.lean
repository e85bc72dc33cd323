/- FlMark, MrMark, RowMarks. -/
import Derived.Test.YteoojodkkjepeaaGreatKp01
import Derived.Test.YteoojodkkjepeaaGreatKp06
import Derived.Test.YteoojodkkjepeaaGreatKp02
import Derived.Test.YteoojodkkjepeaaGreatKp03
set_option maxRecDepth 100000
set_option maxHeartbeats 8000000
set_option linter.unusedVariables false
namespace Go.Proofs.YteoojodkkjepeaaGreat.flK
open ChangeShapes WideShapes ChangeAt RowKit fl
def c (e:rr.Ex):List Value:=[.string e.n,.int .i64 e.k]
theorem c_len (e:rr.Ex):(c e).length=2:=rfl
def ok (e:rr.Ex):Prop:=e.n.size <= maxLen
def wt (e:rr.Ex):Nat:=e.n.size
theorem sz_one (e:rr.Ex)(left:Int)(w:World)(h0:-1 <= left)(h1:left <= 1048576)(hx:ok e) :
  Calls Tryz.prog 187 #[.agg #[.string e.n,.int .i64 e.k],.int .i64 left] w fun r w'=>r=.returned (.int .i64 (if left - (wt e:Int)<0 then -1 else left - (wt e:Int)))/\Below w.heap.size w w':=by
 obtain⟨fn,fk⟩:=e
 have hx0:=hx
 have hx0:fn.size <= 9223372036854775807:=hx0
 unfold wt
 by_cases g0:left - (fn.size:Int)<0
 ·rw [if_pos (by show left - ((fn.size:Nat):Int)<0;omega)]
  go_enter Tryz.func187,Tryz.ntmps187
  go_wp2
  go_ret
  exact⟨rfl,(Below.refl _ _).alloc (Nat.le_refl _) _⟩
 have he:left - ((fn.size:Nat):Int)=left - (fn.size:Int):=by omega
 rw [if_neg (by show ¬ left - ((fn.size:Nat):Int)<0;omega)]
 show Calls _ _ _ _ fun r w'=>r=.returned (.int .i64 (left - ((fn.size:Nat):Int)))/\_
 rw [he]
 go_enter Tryz.func187,Tryz.ntmps187
 go_wp2
 go_ret
 exact⟨rfl,(Below.refl _ _).alloc (Nat.le_refl _) _⟩
theorem sz_all (l:List rr.Ex)(a:Option Addr)(cap:Nat)(left:Int)(w:World)(hl:l.length <= maxLen)(hx:∀ e∈l,ok e)(h0:-1 <= left)(h1:left <= 1048576)(hS:Row c 2 w w.heap.size a l) :
  Calls Tryz.prog 153 #[.slice a l.length cap,.int .i64 left] w fun e w'=>∃ r:Int,e=.returned (.int .i64 r)/\(0 <= r->r=left - l.length - bulk wt l)/\-1 <= r/\r <= 1048576/\Below w.heap.size w w':=by
 have hl':=hl
 unfold maxLen at hl'
 by_cases hneg:left - l.length<0
 ·go_enter Tryz.func153,Tryz.ntmps153
  go_wp2
  go_ret
  exact⟨-1,rfl,by omega,by omega,by omega,Below.refl _ _⟩
 rcases hS with rfl | ⟨b,off,rfl,hlt,hc⟩
 ·go_enter Tryz.func153,Tryz.ntmps153
  go_wp2
  refine wp_loop_rounds 1 ?_
  rw [rounds_succ]
  go_wp2
  go_ret
  exact⟨_,rfl,fun _=>by simp [bulk],by simp at hneg;omega,by simp at hneg;omega,Below.refl _ _⟩
 ·have HC:Hid (∀ (i:Nat) (e:rr.Ex),l[i]?=some e->∀ (j:Nat) (v:Value),(c e)[j]?=some v->w.cell? ⟨b,off+i*2+j,none⟩=some v):=hc
  have HX:Hid (∀ e∈l,ok e):=hx
  clear hc hx
  go_enter Tryz.func153,Tryz.ntmps153
  go_wp2
  go_loopw [1,5] (fun y x wr=>∃ k:Nat,k <= l.length/\x=.int .i64 k/\y=.int .i64 (left - l.length - bulk wt (l.take k))/\0 <= left - l.length - bulk wt (l.take k)/\Below w.heap.size w wr) (fun _ x _=>l.length - (intOf x).toNat)
  case atStart=>exact⟨0,Nat.zero_le _,rfl,by simp [bulk],by simp [bulk];omega,Below.refl _ _⟩
  case round =>
   obtain⟨k,hk,rfl,rfl,hr0,hbel⟩:=hrel
   have hbs:=hbel.size
   by_cases hkl:k<l.length
   ·have HG:Hid (l[k]?=some l[k]):=List.getElem?_eq_getElem hkl
    have hxs:=HX.out l[k] (List.getElem_mem hkl)
    have HBK:Hid (bulk wt (l.take (k+1))=bulk wt (l.take k)+wt l[k]):=bulk_take wt hkl
    obtain⟨⟨fn,fk⟩,he⟩:∃ e,l[k]=e:=⟨_,rfl⟩
    rw [he] at hxs HBK HG
    have c0:wr.cell? ⟨b,off+k*2,none⟩=some (.string fn):=(hbel.cell (p:=⟨b,off+k*2,none⟩) hlt).trans (HC.out k _ HG.out 0 _ rfl)
    have c1:wr.cell? ⟨b,off+k*2+1,none⟩=some (.int .i64 fk):=(hbel.cell (p:=⟨b,off+k*2+1,none⟩) hlt).trans (HC.out k _ HG.out 1 _ rfl)
    obtain⟨m,hm⟩:∃ m,bulk wt (l.take k)=m:=⟨_,rfl⟩
    rw [hm] at HBK hr0 ⊢
    have hone:=sz_one ⟨fn,fk⟩ (left - l.length - m) wr (by omega) (by omega) hxs
    obtain⟨wv,hwt⟩:∃ wv,wt ⟨fn,fk⟩=wv:=⟨_,rfl⟩
    rw [hwt] at hone HBK
    clear hm he hwt hxs
    by_cases hlo:left - l.length - m - wv<0
    ·rw [if_pos hlo] at hone
     go_wp2_with (go_at_call 187;refine hone.mono ?_;rintro e w1 ⟨rfl,hb1⟩)
     go_ret
     exact⟨-1,rfl,by omega,by omega,by omega,hbel.trans (hb1.mono hbs)⟩
    ·rw [if_neg hlo] at hone
     go_wp2_with (go_at_call 187;refine hone.mono ?_;rintro e w1 ⟨rfl,hb1⟩)
     go_roundw
     case rel=>exact⟨k+1,by omega,by go_num,by rw [HBK.out];congr 1;omega,by rw [HBK.out];omega,hbel.trans (hb1.mono hbs)⟩
     case measure=>simp [intOf];omega
   ·obtain rfl:k=l.length:=by omega
    rw [List.take_length] at hr0 ⊢
    go_wp2
    go_ret
    exact⟨_,rfl,fun _=>rfl,by omega,by omega,hbel⟩
theorem to_one (e:rr.Ex)(w:World):Calls Tryz.prog 191 #[.agg #[.string e.n,.int .i64 e.k]] w fun r w'=>r=.returned (.agg #[.string e.n,.int .i64 e.k])/\Below w.heap.size w w':=by
 obtain⟨fn,fk⟩:=e
 go_enter Tryz.func191,Tryz.ntmps191
 go_wp2
 refine bodyPost_ret (v:=.agg #[.string fn,.int .i64 fk]) (by simp [results,Tryz.results191,go_sem]) rfl ⟨rfl,?_⟩
 repeat (first | exact Below.refl _ _ | refine Below.setCell ?_ ?_ _ | refine Below.alloc ?_ ?_ _)
 all_goals (simp;try omega)
theorem own_set {T:TypeId}{w:World}{g k:Nat}{l:List rr.Ex}(fn:ByteArray)(fk:Int)(h:Own c 2 T w g l k)(he:l[k]?=some ⟨fn,fk⟩):Own c 2 T ((w.setCell ⟨g,k*2,none⟩ (.string fn)).setCell ⟨g,k*2+1,none⟩ (.int .i64 fk)) g l (k+1):=by
 have:=Own.set c_len h he
 simpa only [setRow,c,Nat.add_assoc,Nat.reduceAdd] using this
theorem info:(Tryz.prog.info? 123).map (fun i=>(i.zero,i.size,i.bytes))=some (some (.agg #[.string ByteArray.empty,.int .i64 0]),2,24):=by kernel_rfl
theorem to_all (l:List rr.Ex)(a:Option Addr)(cap:Nat)(w:World)(hl:l.length <= 1048576)(hS:Row c 2 w w.heap.size a l) :
  Calls Tryz.prog 159 #[.slice a l.length cap] w fun e w'=>e=.returned (.slice (some ⟨w.heap.size,0,none⟩) l.length l.length)/\Own c 2 123 w' w.heap.size l l.length/\Below w.heap.size w w':=by
 obtain⟨i0,hi,hz0,hz1,hz2⟩:∃ i0,Tryz.prog.info? 123=some i0/\i0.zero=some (.agg #[.string ByteArray.empty,.int .i64 0])/\i0.size=2/\i0.bytes=24:=by
  have h:=info
  cases hh:Tryz.prog.info? 123 with
  | none=>rw [hh] at h;cases h
  | some i=>rw [hh] at h;simp at h;exact⟨i,rfl,h.1,h.2.1,h.2.2⟩
 have hmk:=run_makeSlice (P:=Tryz.prog) w 72 123 i0 _ Tryz.underlying72 hi hz0 .i64 .i64 (l.length:Int) (l.length:Int) (by omega) (Int.le_refl _) (by rw [hz1];simp;omega) (by rw [hz2];omega) (by omega)
 rw [hz1,show ((l.length:Int)).toNat=l.length by omega] at hmk
 have hmk2:(Instr.makeSlice 72 (.int .i64 (l.length:Int)) (.int .i64 (l.length:Int))).run Tryz.prog w=.ok (.slice (some ⟨w.heap.size,0,none⟩) l.length l.length) (w.alloc (.cells (madeCells #[.string ByteArray.empty,.int .i64 0] (l.length*2)) 123)):=hmk
 have hf0:Own c 2 123 (w.alloc (.cells (madeCells #[.string ByteArray.empty,.int .i64 0] (l.length*2)) 123)) w.heap.size l 0:=made #[.string ByteArray.empty,.int .i64 0].toList w l rfl
 have hb0:=fl.bl w (.cells (madeCells #[.string ByteArray.empty,.int .i64 0] (l.length*2)) 123)
 obtain⟨W,hW⟩:∃ W,w.alloc (.cells (madeCells #[.string ByteArray.empty,.int .i64 0] (l.length*2)) 123)=W:=⟨_,rfl⟩
 rw [hW] at hmk2 hf0 hb0
 have HF0:Hid (Own c 2 123 W w.heap.size l 0):=hf0
 clear hmk hW hf0
 rcases hS with rfl | ⟨b,off,rfl,hlt,hc⟩
 ·have hmk3:(Instr.makeSlice 72 (.int .i64 0) (.int .i64 0)).run Tryz.prog w=.ok (.slice (some ⟨w.heap.size,0,none⟩) 0 0) W:=by simpa using hmk2
  clear hmk2
  go_enter Tryz.func159,Tryz.ntmps159
  go_wp2
  refine wp_loop_rounds 1 ?_
  rw [rounds_succ]
  go_wp2
  go_ret
  exact⟨rfl,HF0.out,hb0⟩
 ·have HC:Hid (∀ (i:Nat) (e:rr.Ex),l[i]?=some e->∀ (j:Nat) (v:Value),(c e)[j]?=some v->w.cell? ⟨b,off+i*2+j,none⟩=some v):=hc
  clear hc
  go_enter Tryz.func159,Tryz.ntmps159
  go_wp2
  go_loopw [4] (fun x wr=>∃ k:Nat,k <= l.length/\x=.int .i64 k/\Below w.heap.size w wr/\Hid (Own c 2 123 wr w.heap.size l k)) (fun x _=>l.length - (intOf x).toNat)
  case atStart=>exact⟨0,Nat.zero_le _,rfl,hb0,HF0⟩
  case round =>
   obtain⟨k,hk,rfl,hbel,hf⟩:=hrel
   have hbs:=hbel.size
   by_cases hkl:k<l.length
   ·have HG:Hid (l[k]?=some l[k]):=List.getElem?_eq_getElem hkl
    obtain⟨⟨fn,fk⟩,he⟩:∃ e,l[k]=e:=⟨_,rfl⟩
    rw [he] at HG
    have c0:wr.cell? ⟨b,off+k*2,none⟩=some (.string fn):=(hbel.cell (p:=⟨b,off+k*2,none⟩) hlt).trans (HC.out k _ HG.out 0 _ rfl)
    have c1:wr.cell? ⟨b,off+k*2+1,none⟩=some (.int .i64 fk):=(hbel.cell (p:=⟨b,off+k*2+1,none⟩) hlt).trans (HC.out k _ HG.out 1 _ rfl)
    have hone:=to_one ⟨fn,fk⟩ wr
    have hfl:=hf.out.lt
    clear he
    go_wp2_with (go_at_call 191;refine hone.mono ?_;rintro e w1 ⟨rfl,hb1⟩;have hf1:=hf.out.below hb1 hfl;obtain⟨v0,g0⟩:=hf1.at (k*2) (by omega);have z0:=hf1.free (k*2);obtain⟨v1,g1⟩:=hf1.at (k*2+1) (by omega);have z1:=hf1.free (k*2+1);have HN:Hid (Own c 2 123 ((w1.setCell ⟨w.heap.size,k*2,none⟩ (.string fn)).setCell ⟨w.heap.size,k*2+1,none⟩ (.int .i64 fk)) w.heap.size l (k+1)):=own_set fn fk hf1 HG.out;clear hf1)
    go_roundw
    case rel=>exact⟨k+1,by omega,by go_num,(((hbel.trans (hb1.mono hbs)).setCell (Nat.le_refl _) _).setCell (Nat.le_refl _) _),HN⟩
    case measure=>simp [intOf];omega
   ·obtain rfl:k=l.length:=by omega
    go_wp2
    go_ret
    exact⟨rfl,hf.out,hbel⟩
theorem eq_one (e:rr.Ex)(w:World):Calls Tryz.prog 205 #[.agg #[.string e.n,.int .i64 e.k],.agg #[.string e.n,.int .i64 e.k]] w fun r w'=>r=.returned (.bool true)/\Below w.heap.size w w':=by
 obtain⟨fn,fk⟩:=e
 go_enter Tryz.func205,Tryz.ntmps205
 go_wp2
 go_ret
 exact⟨rfl,((Below.refl _ _).alloc (Nat.le_refl _) _).alloc (by simp) _⟩
theorem eq_all (l:List rr.Ex)(a a':Option Addr)(ca ca':Nat)(w:World)(hl:l.length <= maxLen)(ha:Row c 2 w w.heap.size a l)(hb:Row c 2 w w.heap.size a' l) :
  Calls Tryz.prog 174 #[.slice a l.length ca,.slice a' l.length ca'] w fun e w'=>e=.returned (.bool true)/\Below w.heap.size w w':=by
 have hl':=hl
 unfold maxLen at hl'
 have nilw:∀ a a':Option Addr,Calls Tryz.prog 174 #[.slice a 0 ca,.slice a' 0 ca'] w fun e w'=>e=.returned (.bool true)/\Below w.heap.size w w':=fun a a'=>by
  go_enter Tryz.func174,Tryz.ntmps174
  go_wp2
  refine wp_loop_rounds 1 ?_
  rw [rounds_succ]
  go_wp2
  go_ret
  exact⟨rfl,Below.refl _ _⟩
 rcases ha with rfl | ⟨b,off,rfl,hlt,hc⟩
 ·exact nilw a a'
 rcases hb with rfl | ⟨b',off_,rfl,hlt',hc'⟩
 ·exact nilw _ _
 ·have HA:Hid (∀ (i:Nat) (e:rr.Ex),l[i]?=some e->∀ (j:Nat) (v:Value),(c e)[j]?=some v->w.cell? ⟨b,off+i*2+j,none⟩=some v):=hc
  have HB:Hid (∀ (i:Nat) (e:rr.Ex),l[i]?=some e->∀ (j:Nat) (v:Value),(c e)[j]?=some v->w.cell? ⟨b',off_+i*2+j,none⟩=some v):=hc'
  clear hc hc' nilw
  go_enter Tryz.func174,Tryz.ntmps174
  go_wp2
  go_loopw [5] (fun x wr=>∃ k:Nat,k <= l.length/\x=.int .i64 k/\Below w.heap.size w wr) (fun x _=>l.length - (intOf x).toNat)
  case atStart=>exact⟨0,Nat.zero_le _,rfl,Below.refl _ _⟩
  case round =>
   obtain⟨k,hk,rfl,hbel⟩:=hrel
   have hbs:=hbel.size
   by_cases hkl:k<l.length
   ·have HG:Hid (l[k]?=some l[k]):=List.getElem?_eq_getElem hkl
    obtain⟨⟨fn,fk⟩,he⟩:∃ e,l[k]=e:=⟨_,rfl⟩
    rw [he] at HG
    have a0:wr.cell? ⟨b,off+k*2,none⟩=some (.string fn):=(hbel.cell (p:=⟨b,off+k*2,none⟩) hlt).trans (HA.out k _ HG.out 0 _ rfl)
    have b0:wr.cell? ⟨b',off_+k*2,none⟩=some (.string fn):=(hbel.cell (p:=⟨b',off_+k*2,none⟩) hlt').trans (HB.out k _ HG.out 0 _ rfl)
    have a1:wr.cell? ⟨b,off+k*2+1,none⟩=some (.int .i64 fk):=(hbel.cell (p:=⟨b,off+k*2+1,none⟩) hlt).trans (HA.out k _ HG.out 1 _ rfl)
    have b1:wr.cell? ⟨b',off_+k*2+1,none⟩=some (.int .i64 fk):=(hbel.cell (p:=⟨b',off_+k*2+1,none⟩) hlt').trans (HB.out k _ HG.out 1 _ rfl)
    have hone:=eq_one ⟨fn,fk⟩ wr.drew
    have i2:(k:Int)<(l.length:Int):=by omega
    clear he
    go_wp2
    go_region_with (go_at_call 205;refine hone.mono ?_;rintro e w1 ⟨rfl,hb1⟩)
    all_goals go_wp2
    all_goals go_roundw
    all_goals first | exact⟨k+1,by omega,by go_num,hbel.drew.trans (hb1.mono hbs)⟩ | (simp [intOf];omega)
   ·obtain rfl:k=l.length:=by omega
    go_wp2
    go_ret
    exact⟨rfl,hbel⟩
end Go.Proofs.YteoojodkkjepeaaGreat.flK
namespace Go.Proofs.YteoojodkkjepeaaGreat.mrK
open ChangeShapes WideShapes ChangeAt RowKit fl fo
def mks (k0 n:Nat):List rr.Ex:=(List.range n).map fun i=>⟨sm.mt (k0+2*i),((k0+2*i:Nat):Int)+1⟩
theorem mks_at (k0 n k:Nat)(h:k<n):(mks k0 n)[k]?=some ⟨sm.mt (k0+2*k),((k0+2*k:Nat):Int)+1⟩:=by simp [mks,h]
theorem mks_len (k0 n:Nat):(mks k0 n).length=n:=by simp [mks]
theorem last {T:TypeId}{w1:World}{g off k:Nat}{l:List rr.Ex}{e:rr.Ex}(hf:OwnO flK.c 2 T w1 g off l k)(he:l[k]?=some e) :
  OwnO flK.c 2 T ((w1.setCell ⟨g,off+k*2,none⟩ (.string e.n)).setCell ⟨g,off+k*2+1,none⟩ (.int .i64 e.k)) g off l (k+1):=by
 have hk:=(List.getElem?_eq_some_iff.1 he).1
 obtain⟨cur,h1,h2⟩:=hf.cells
 have s1:=bset h1 (off+k*2) (.string e.n)
 refine((hf.put flK.c_len (off+k*2) (.string e.n) (by omega)).put flK.c_len (off+k*2+1) (.int .i64 e.k) (by omega)).more he (fun j v hv=>?_)
 match j,hv with
 | 0,hv=>cases hv;rw [Nat.add_zero,set_ne s1 (by omega)];exact set_eq h1 (by omega)
 | 1,hv=>cases hv;exact set_eq s1 (by rw [Array.size_setIfInBounds];omega)
 | j+2,hv=>simp [flK.c] at hv
theorem mark_all (n g off c k0:Nat)(w:World)(hl:n <= 2000000)(hk0:1 <= k0/\k0 <= 1000000000000)(ha:OwnO flK.c 2 123 w g off (mks k0 n) 0) :
  Calls Tryz.prog 132 #[.slice (some ⟨g,off,none⟩) n c,.int .i64 k0] w fun e w'=>e=.returned (.int .i64 (k0+2*n:Nat))/\Tn w w' (fun k=>k=g)/\OwnO flK.c 2 123 w' g off (mks k0 n) n:=by
 have HA:Hid (OwnO flK.c 2 123 w g off (mks k0 n) 0):=ha
 clear ha
 go_enter Tryz.func132,Tryz.ntmps132
 go_wp2
 go_loopw [1,5] (fun y x wr=>∃ k:Nat,k <= n/\x=.int .i64 k/\y=.int .i64 (k0+2*k:Nat)/\Tn w wr (fun k=>k=g)/\Hid (OwnO flK.c 2 123 wr g off (mks k0 n) k)) (fun _ x _=>n - (intOf x).toNat)
 case atStart=>exact⟨0,Nat.zero_le _,rfl,rfl,Tn.refl _ _,HA⟩
 case round =>
  obtain⟨k,hk,rfl,rfl,hbel,hf⟩:=hrel
  by_cases hkl:k<n
  ·have hg:=mks_at k0 n k hkl
   obtain⟨m,hm⟩:∃ m,k0+2*k=m:=⟨_,rfl⟩
   rw [hm] at hg
   rw [hm]
   have hm9:m <= 9000000000000:=by omega
   have HG:Hid ((mks k0 n)[k]?=some ⟨sm.mt m,(m:Int)+1⟩):=hg
   have HM:Hid (k0+2*k=m):=hm
   have hmt:=fun W=>sm.mark_text m W (by omega) (by omega)
   have hml:=mks_len k0 n
   have h20:off+k*2<off+(mks k0 n).length*2:=by omega
   have h21:off+k*2+1<off+(mks k0 n).length*2:=by omega
   have hfl:=hf.out.lt
   clear hm hg hml
   go_wp2_with (go_at_call 128;refine(hmt _).mono ?_;rintro e w1 ⟨rfl,hb1⟩;have hf1:=hf.out.below hb1 hfl;obtain⟨v0,g0⟩:=hf1.at (off+k*2) h20;have z0:=hf1.free (off+k*2);obtain⟨v1,g1⟩:=hf1.at (off+k*2+1) h21;have z1:=hf1.free (off+k*2+1);have HN:Hid (OwnO flK.c 2 123 ((w1.setCell ⟨g,off+k*2,none⟩ (.string (sm.mt m))).setCell ⟨g,off+k*2+1,none⟩ (.int .i64 ((m:Int)+1))) g off (mks k0 n) (k+1)):=last (e:=⟨sm.mt m,(m:Int)+1⟩) hf1 HG.out;have hT1:Tn w w1 (fun k=>k=g):=hbel.trans (Tn.of _ hb1);clear hf1)
   go_roundw
   case rel=>exact⟨k+1,by omega,by go_num,by rw [show k0+2*(k+1)=m+2 by have:=HM.out;omega];go_num,(hT1.set rfl _ _).set rfl _ _,HN⟩
   case measure=>simp [intOf];omega
  ·obtain rfl:k=n:=by omega
   go_wp2
   go_ret
   exact⟨rfl,hbel,hf.out⟩
theorem held_all (n g off c k0:Nat)(w:World)(hl:n <= 2000000)(hk0:1 <= k0/\k0 <= 1000000000000)(ha:OwnO flK.c 2 123 w g off (mks k0 n) n) :
  Calls Tryz.prog 138 #[.slice (some ⟨g,off,none⟩) n c,.int .i64 k0] w fun e w'=>e=.returned (.int .i64 (k0+2*n:Nat))/\Below w.heap.size w w':=by
 have HA:Hid (OwnO flK.c 2 123 w g off (mks k0 n) n):=ha
 have hlt:=ha.lt
 clear ha
 go_enter Tryz.func138,Tryz.ntmps138
 go_wp2
 go_loopw [1,5] (fun y x wr=>∃ k:Nat,k <= n/\x=.int .i64 k/\y=.int .i64 (k0+2*k:Nat)/\Below w.heap.size w wr) (fun _ x _=>n - (intOf x).toNat)
 case atStart=>exact⟨0,Nat.zero_le _,rfl,rfl,Below.refl _ _⟩
 case round =>
  obtain⟨k,hk,rfl,rfl,hbel⟩:=hrel
  by_cases hkl:k<n
  ·have hg:=mks_at k0 n k hkl
   obtain⟨m,hm⟩:∃ m,k0+2*k=m:=⟨_,rfl⟩
   rw [hm] at hg
   rw [hm]
   have hm9:m <= 9000000000000:=by omega
   have HM:Hid (k0+2*k=m):=hm
   have hR:=HA.out.below hbel hlt
   have hltr:=hR.lt
   have cs:∀ (j:Nat) (v:Value),(flK.c ⟨sm.mt m,(m:Int)+1⟩)[j]?=some v->wr.cell? ⟨g,off+k*2+j,none⟩=some v:=fun j v hv=>by
    obtain⟨cur,h1,h2,h3⟩:=hR
    simp only [World.cell?,h1]
    simpa using h3 k _ hkl hg j v hv
   have c0:wr.cell? ⟨g,off+k*2,none⟩=some (.string (sm.mt m)):=cs 0 _ rfl
   have c1:wr.cell? ⟨g,off+k*2+1,none⟩=some (.int .i64 ((m:Int)+1)):=cs 1 _ rfl
   have hmt:=fun W=>sm.mark_text m W (by omega) (by omega)
   have i2:(k:Int)<(n:Int):=by omega
   clear hm hg hR cs
   go_wp2
   go_region_with (go_at_call 128;refine(hmt _).mono ?_;rintro e w1 ⟨rfl,hb1⟩;have d0:w1.cell? ⟨g,off+k*2,none⟩=some (.string (sm.mt m)):=(hb1.cell (by exact hltr)).trans c0;have d1:w1.cell? ⟨g,off+k*2+1,none⟩=some (.int .i64 ((m:Int)+1)):=(hb1.cell (by exact hltr)).trans c1)
   all_goals go_wp2
   all_goals go_roundw
   all_goals first | exact⟨k+1,by omega,by go_num,by rw [show k0+2*(k+1)=m+2 by have:=HM.out;omega];go_num,hbel.drew.trans (hb1.mono hbel.size)⟩ | (simp [intOf];omega)
  ·obtain rfl:k=n:=by omega
   go_wp2
   go_ret
   exact⟨rfl,hbel⟩
end Go.Proofs.YteoojodkkjepeaaGreat.mrK
namespace Go.Proofs.YteoojodkkjepeaaGreat.rmk
open ChangeShapes WideShapes ChangeAt RowKit fl fo
theorem mine_type {α:Type}{c:α->List Value}{n:Nat}{U:TypeId}{w:World}{B:Nat}{a:Option Addr}{l:List α}{k:Nat}(h:Mine c n U w B a l)(hk:blk a l k):∃ cur,w.heap[k]?=some (.cells cur U (0,0)):=by
 obtain⟨hl,g,off,ha,rfl⟩:=hk
 rcases h with h | ⟨g',off',ha',_,cur,h1,_⟩
 ·exact absurd h hl
 ·rw [ha'] at ha;cases ha;exact⟨cur,h1⟩
theorem ne_type {w:World}{k:Nat}{U V:TypeId}(hUV:U≠V)(h1:∃ cur,w.heap[k]?=some (.cells cur U (0,0)))(h2:∃ cur,w.heap[k]?=some (.cells cur V (0,0))):False:=by
 obtain⟨c1,h1⟩:=h1
 obtain⟨c2,h2⟩:=h2
 rw [h1] at h2
 simp at h2
 exact hUV h2.2
theorem mark0M (ao:Option Addr)(c k0:Nat)(w:World)(hk0:k0 <= 1000000000000) :
  Calls Tryz.prog 129 #[.slice ao 0 c,.int .i64 k0] w fun e w'=>e=.returned (.int .i64 k0)/\w'=w:=by
 go_enter Tryz.func129,Tryz.ntmps129
 go_wp2
 go_loopw [1,5] (fun y x wr=>x=.int .i64 0/\y=.int .i64 k0/\wr=w) (fun _ _ _=>0)
 case atStart=>exact⟨rfl,rfl,rfl⟩
 case round =>
  obtain⟨rfl,rfl,hw⟩:=hrel
  go_wp2
  go_ret
  exact⟨rfl,by first | rfl | trivial⟩
theorem held0M (ao:Option Addr)(c k0:Nat)(w:World)(hk0:k0 <= 1000000000000) :
  Calls Tryz.prog 135 #[.slice ao 0 c,.int .i64 k0] w fun e w'=>e=.returned (.int .i64 k0)/\w'=w:=by
 go_enter Tryz.func135,Tryz.ntmps135
 go_wp2
 go_loopw [1,5] (fun y x wr=>x=.int .i64 0/\y=.int .i64 k0/\wr=w) (fun _ _ _=>0)
 case atStart=>exact⟨rfl,rfl,rfl⟩
 case round =>
  obtain⟨rfl,rfl,hw⟩:=hrel
  go_wp2
  go_ret
  exact⟨rfl,by first | rfl | trivial⟩
theorem markM {B:Nat}(l:List flM.Ms)(a:Option Addr)(cap k0:Nat)(w:World)(hl:l.length <= 2000000)(hk0:1 <= k0/\k0 <= 1000000000000)(h:Mine flM.c 5 48 w B a l) :
  Calls Tryz.prog 129 #[.slice a l.length cap,.int .i64 k0] w fun e w'=>e=.returned (.int .i64 (k0+5*l.length:Nat))/\Tn w w' (blk a l)/\Mine flM.c 5 48 w' B a (mrM.mks k0 l.length):=by
 by_cases hn:l=[]
 ·subst hn
  refine(mark0M a cap k0 w hk0.2).mono ?_
  rintro e w' ⟨rfl,rfl⟩
  exact⟨by simp,Tn.refl _ _,.inl (by simp [mrM.mks])⟩
 ·rcases h with h | ⟨g,off,rfl,hB,ho⟩
  ·exact absurd h hn
  ·exact(mrM.mark_all l.length g off cap k0 w hl hk0 (ho.any (by rw [mrM.mks_len]))).mono fun e w' ⟨h1,h2,h3⟩=>⟨h1,h2.wide (fun k hk=>⟨hn,g,off,rfl,hk⟩),.inr ⟨g,off,rfl,hB,by rw [mrM.mks_len];exact h3⟩⟩
theorem heldM {B:Nat}(n:Nat)(a:Option Addr)(cap k0:Nat)(w:World)(hl:n <= 2000000)(hk0:1 <= k0/\k0 <= 1000000000000)(h:Mine flM.c 5 48 w B a (mrM.mks k0 n)) :
  Calls Tryz.prog 135 #[.slice a n cap,.int .i64 k0] w fun e w'=>e=.returned (.int .i64 (k0+5*n:Nat))/\Below w.heap.size w w':=by
 by_cases hn:n=0
 ·subst hn
  refine(held0M a cap k0 w hk0.2).mono ?_
  rintro e w' ⟨rfl,rfl⟩
  exact⟨by simp,Below.refl _ _⟩
 ·rcases h with h | ⟨g,off,rfl,hB,ho⟩
  ·have:=congrArg List.length h
   rw [mrM.mks_len] at this
   simp at this
   exact absurd this hn
  ·rw [mrM.mks_len] at ho
   exact mrM.held_all n g off cap k0 w hl hk0 ho
theorem mark0H (ao:Option Addr)(c k0:Nat)(w:World)(hk0:k0 <= 1000000000000) :
  Calls Tryz.prog 130 #[.slice ao 0 c,.int .i64 k0] w fun e w'=>e=.returned (.int .i64 k0)/\w'=w:=by
 go_enter Tryz.func130,Tryz.ntmps130
 go_wp2
 go_loopw [1,5] (fun y x wr=>x=.int .i64 0/\y=.int .i64 k0/\wr=w) (fun _ _ _=>0)
 case atStart=>exact⟨rfl,rfl,rfl⟩
 case round =>
  obtain⟨rfl,rfl,hw⟩:=hrel
  go_wp2
  go_ret
  exact⟨rfl,by first | rfl | trivial⟩
theorem held0H (ao:Option Addr)(c k0:Nat)(w:World)(hk0:k0 <= 1000000000000) :
  Calls Tryz.prog 136 #[.slice ao 0 c,.int .i64 k0] w fun e w'=>e=.returned (.int .i64 k0)/\w'=w:=by
 go_enter Tryz.func136,Tryz.ntmps136
 go_wp2
 go_loopw [1,5] (fun y x wr=>x=.int .i64 0/\y=.int .i64 k0/\wr=w) (fun _ _ _=>0)
 case atStart=>exact⟨rfl,rfl,rfl⟩
 case round =>
  obtain⟨rfl,rfl,hw⟩:=hrel
  go_wp2
  go_ret
  exact⟨rfl,by first | rfl | trivial⟩
theorem markH {B:Nat}(l:List flH.Hd)(a:Option Addr)(cap k0:Nat)(w:World)(hl:l.length <= 2000000)(hk0:1 <= k0/\k0 <= 1000000000000)(h:Mine flH.c 7 102 w B a l) :
  Calls Tryz.prog 130 #[.slice a l.length cap,.int .i64 k0] w fun e w'=>e=.returned (.int .i64 (k0+7*l.length:Nat))/\Tn w w' (blk a l)/\Mine flH.c 7 102 w' B a (mrH.mks k0 l.length):=by
 by_cases hn:l=[]
 ·subst hn
  refine(mark0H a cap k0 w hk0.2).mono ?_
  rintro e w' ⟨rfl,rfl⟩
  exact⟨by simp,Tn.refl _ _,.inl (by simp [mrH.mks])⟩
 ·rcases h with h | ⟨g,off,rfl,hB,ho⟩
  ·exact absurd h hn
  ·exact(mrH.mark_all l.length g off cap k0 w hl hk0 (ho.any (by rw [mrH.mks_len]))).mono fun e w' ⟨h1,h2,h3⟩=>⟨h1,h2.wide (fun k hk=>⟨hn,g,off,rfl,hk⟩),.inr ⟨g,off,rfl,hB,by rw [mrH.mks_len];exact h3⟩⟩
theorem heldH {B:Nat}(n:Nat)(a:Option Addr)(cap k0:Nat)(w:World)(hl:n <= 2000000)(hk0:1 <= k0/\k0 <= 1000000000000)(h:Mine flH.c 7 102 w B a (mrH.mks k0 n)) :
  Calls Tryz.prog 136 #[.slice a n cap,.int .i64 k0] w fun e w'=>e=.returned (.int .i64 (k0+7*n:Nat))/\Below w.heap.size w w':=by
 by_cases hn:n=0
 ·subst hn
  refine(held0H a cap k0 w hk0.2).mono ?_
  rintro e w' ⟨rfl,rfl⟩
  exact⟨by simp,Below.refl _ _⟩
 ·rcases h with h | ⟨g,off,rfl,hB,ho⟩
  ·have:=congrArg List.length h
   rw [mrH.mks_len] at this
   simp at this
   exact absurd this hn
  ·rw [mrH.mks_len] at ho
   exact mrH.held_all n g off cap k0 w hl hk0 ho
theorem mark0Y (ao:Option Addr)(c k0:Nat)(w:World)(hk0:k0 <= 1000000000000) :
  Calls Tryz.prog 131 #[.slice ao 0 c,.int .i64 k0] w fun e w'=>e=.returned (.int .i64 k0)/\w'=w:=by
 go_enter Tryz.func131,Tryz.ntmps131
 go_wp2
 go_loopw [1,5] (fun y x wr=>x=.int .i64 0/\y=.int .i64 k0/\wr=w) (fun _ _ _=>0)
 case atStart=>exact⟨rfl,rfl,rfl⟩
 case round =>
  obtain⟨rfl,rfl,hw⟩:=hrel
  go_wp2
  go_ret
  exact⟨rfl,by first | rfl | trivial⟩
theorem held0Y (ao:Option Addr)(c k0:Nat)(w:World)(hk0:k0 <= 1000000000000) :
  Calls Tryz.prog 137 #[.slice ao 0 c,.int .i64 k0] w fun e w'=>e=.returned (.int .i64 k0)/\w'=w:=by
 go_enter Tryz.func137,Tryz.ntmps137
 go_wp2
 go_loopw [1,5] (fun y x wr=>x=.int .i64 0/\y=.int .i64 k0/\wr=w) (fun _ _ _=>0)
 case atStart=>exact⟨rfl,rfl,rfl⟩
 case round =>
  obtain⟨rfl,rfl,hw⟩:=hrel
  go_wp2
  go_ret
  exact⟨rfl,by first | rfl | trivial⟩
theorem markY {B:Nat}(l:List flY.En)(a:Option Addr)(cap k0:Nat)(w:World)(hl:l.length <= 2000000)(hk0:1 <= k0/\k0 <= 1000000000000)(h:Mine flY.c 3 121 w B a l) :
  Calls Tryz.prog 131 #[.slice a l.length cap,.int .i64 k0] w fun e w'=>e=.returned (.int .i64 (k0+3*l.length:Nat))/\Tn w w' (blk a l)/\Mine flY.c 3 121 w' B a (mrY.mks k0 l.length):=by
 by_cases hn:l=[]
 ·subst hn
  refine(mark0Y a cap k0 w hk0.2).mono ?_
  rintro e w' ⟨rfl,rfl⟩
  exact⟨by simp,Tn.refl _ _,.inl (by simp [mrY.mks])⟩
 ·rcases h with h | ⟨g,off,rfl,hB,ho⟩
  ·exact absurd h hn
  ·exact(mrY.mark_all l.length g off cap k0 w hl hk0 (ho.any (by rw [mrY.mks_len]))).mono fun e w' ⟨h1,h2,h3⟩=>⟨h1,h2.wide (fun k hk=>⟨hn,g,off,rfl,hk⟩),.inr ⟨g,off,rfl,hB,by rw [mrY.mks_len];exact h3⟩⟩
theorem heldY {B:Nat}(n:Nat)(a:Option Addr)(cap k0:Nat)(w:World)(hl:n <= 2000000)(hk0:1 <= k0/\k0 <= 1000000000000)(h:Mine flY.c 3 121 w B a (mrY.mks k0 n)) :
  Calls Tryz.prog 137 #[.slice a n cap,.int .i64 k0] w fun e w'=>e=.returned (.int .i64 (k0+3*n:Nat))/\Below w.heap.size w w':=by
 by_cases hn:n=0
 ·subst hn
  refine(held0Y a cap k0 w hk0.2).mono ?_
  rintro e w' ⟨rfl,rfl⟩
  exact⟨by simp,Below.refl _ _⟩
 ·rcases h with h | ⟨g,off,rfl,hB,ho⟩
  ·have:=congrArg List.length h
   rw [mrY.mks_len] at this
   simp at this
   exact absurd this hn
  ·rw [mrY.mks_len] at ho
   exact mrY.held_all n g off cap k0 w hl hk0 ho
theorem mark0K (ao:Option Addr)(c k0:Nat)(w:World)(hk0:k0 <= 1000000000000) :
  Calls Tryz.prog 132 #[.slice ao 0 c,.int .i64 k0] w fun e w'=>e=.returned (.int .i64 k0)/\w'=w:=by
 go_enter Tryz.func132,Tryz.ntmps132
 go_wp2
 go_loopw [1,5] (fun y x wr=>x=.int .i64 0/\y=.int .i64 k0/\wr=w) (fun _ _ _=>0)
 case atStart=>exact⟨rfl,rfl,rfl⟩
 case round =>
  obtain⟨rfl,rfl,hw⟩:=hrel
  go_wp2
  go_ret
  exact⟨rfl,by first | rfl | trivial⟩
theorem held0K (ao:Option Addr)(c k0:Nat)(w:World)(hk0:k0 <= 1000000000000) :
  Calls Tryz.prog 138 #[.slice ao 0 c,.int .i64 k0] w fun e w'=>e=.returned (.int .i64 k0)/\w'=w:=by
 go_enter Tryz.func138,Tryz.ntmps138
 go_wp2
 go_loopw [1,5] (fun y x wr=>x=.int .i64 0/\y=.int .i64 k0/\wr=w) (fun _ _ _=>0)
 case atStart=>exact⟨rfl,rfl,rfl⟩
 case round =>
  obtain⟨rfl,rfl,hw⟩:=hrel
  go_wp2
  go_ret
  exact⟨rfl,by first | rfl | trivial⟩
theorem markK {B:Nat}(l:List rr.Ex)(a:Option Addr)(cap k0:Nat)(w:World)(hl:l.length <= 2000000)(hk0:1 <= k0/\k0 <= 1000000000000)(h:Mine flK.c 2 123 w B a l) :
  Calls Tryz.prog 132 #[.slice a l.length cap,.int .i64 k0] w fun e w'=>e=.returned (.int .i64 (k0+2*l.length:Nat))/\Tn w w' (blk a l)/\Mine flK.c 2 123 w' B a (mrK.mks k0 l.length):=by
 by_cases hn:l=[]
 ·subst hn
  refine(mark0K a cap k0 w hk0.2).mono ?_
  rintro e w' ⟨rfl,rfl⟩
  exact⟨by simp,Tn.refl _ _,.inl (by simp [mrK.mks])⟩
 ·rcases h with h | ⟨g,off,rfl,hB,ho⟩
  ·exact absurd h hn
  ·exact(mrK.mark_all l.length g off cap k0 w hl hk0 (ho.any (by rw [mrK.mks_len]))).mono fun e w' ⟨h1,h2,h3⟩=>⟨h1,h2.wide (fun k hk=>⟨hn,g,off,rfl,hk⟩),.inr ⟨g,off,rfl,hB,by rw [mrK.mks_len];exact h3⟩⟩
theorem heldK {B:Nat}(n:Nat)(a:Option Addr)(cap k0:Nat)(w:World)(hl:n <= 2000000)(hk0:1 <= k0/\k0 <= 1000000000000)(h:Mine flK.c 2 123 w B a (mrK.mks k0 n)) :
  Calls Tryz.prog 138 #[.slice a n cap,.int .i64 k0] w fun e w'=>e=.returned (.int .i64 (k0+2*n:Nat))/\Below w.heap.size w w':=by
 by_cases hn:n=0
 ·subst hn
  refine(held0K a cap k0 w hk0.2).mono ?_
  rintro e w' ⟨rfl,rfl⟩
  exact⟨by simp,Below.refl _ _⟩
 ·rcases h with h | ⟨g,off,rfl,hB,ho⟩
  ·have:=congrArg List.length h
   rw [mrK.mks_len] at this
   simp at this
   exact absurd this hn
  ·rw [mrK.mks_len] at ho
   exact mrK.held_all n g off cap k0 w hl hk0 ho
end Go.Proofs.YteoojodkkjepeaaGreat.rmk
