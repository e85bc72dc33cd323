/- RouteTo, RouteLib, CopyBinding. -/
import Derived.Test.YteoojodkkjepeaaGreatKp12
import Derived.Test.YteoojodkkjepeaaGreatKp11
import Derived.Test.YteoojodkkjepeaaGreatKp01
set_option maxRecDepth 100000
set_option maxHeartbeats 8000000
set_option linter.unusedVariables false
namespace Go.Proofs.YteoojodkkjepeaaGreat.rt
open ChangeShapes WideShapes ChangeAt RowKit rr ra
theorem to_oneE (e:Ex)(w:World):Calls Tryz.prog 154 #[.agg #[.string e.n,.int .i64 e.k]] w fun r w'=>r=.returned (.agg #[.string e.n,.int .i64 e.k])/\Below w.heap.size w w':=by
 obtain⟨en,ek⟩:=e
 go_enter Tryz.func154,Tryz.ntmps154
 go_wp2
 refine bodyPost_ret (v:=.agg #[.string en,.int .i64 ek]) (by simp [results,Tryz.results154,go_sem]) rfl ⟨rfl,?_⟩
 repeat (first | exact Below.refl _ _ | refine Below.setCell ?_ ?_ _ | refine Below.alloc ?_ ?_ _)
 all_goals (simp;try omega)
theorem to_oneB (e:Bi)(w:World):Calls Tryz.prog 155 #[.agg #[.string e.x,.string e.k,.string e.q]] w fun r w'=>r=.returned (.agg #[.string e.x,.string e.k,.string e.q])/\Below w.heap.size w w':=by
 obtain⟨ex,ek,eq⟩:=e
 go_enter Tryz.func155,Tryz.ntmps155
 go_wp2
 refine bodyPost_ret (v:=.agg #[.string ex,.string ek,.string eq]) (by simp [results,Tryz.results155,go_sem]) rfl ⟨rfl,?_⟩
 repeat (first | exact Below.refl _ _ | refine Below.setCell ?_ ?_ _ | refine Below.alloc ?_ ?_ _)
 all_goals (simp;try omega)
theorem infoE:(Tryz.prog.info? 125).map (fun i=>(i.zero,i.size,i.bytes))=some (some (.agg #[.string ByteArray.empty,.int .i64 0]),2,24):=by kernel_rfl
def FE (w:World)(g:Nat)(l:List Ex)(k:Nat):Prop:=∃ cur,w.heap[g]?=some (.cells cur 125 (0,0))/\l.length*2 <= cur.size/\∀ (i:Nat) (e:Ex),i<k->l[i]?=some e->cur[i*2]?=some (.string e.n)/\cur[i*2+1]?=some (.int .i64 e.k)
theorem FE.at {w:World}{g k:Nat}{l:List Ex}(h:FE w g l k)(o:Nat)(ho:o<l.length*2):∃ v,w.cell? ⟨g,o,none⟩=some v:=by
 obtain⟨cur,hg,hs,_⟩:=h
 exact⟨cur[o]'(by omega),by simp [World.cell?,hg,Array.getElem?_eq_getElem (show o<cur.size by omega)]⟩
theorem FE.free {w:World}{g k:Nat}{l:List Ex}(h:FE w g l k)(o:Nat):w.frozen? ⟨g,o,none⟩=false:=by
 obtain⟨cur,hg,_⟩:=h
 simp [World.frozen?,hg]
theorem FE.below {w w':World}{g k B:Nat}{l:List Ex}(h:FE w g l k)(hb:Below B w w')(hg:g<B):FE w' g l k:=by
 obtain⟨cur,h1,h2⟩:=h
 exact⟨cur,by rw [hb.block g hg];exact h1,h2⟩
theorem FE.lt {w:World}{g k:Nat}{l:List Ex}(h:FE w g l k):g<w.heap.size:=by
 obtain⟨cur,hg,_⟩:=h
 exact(Array.getElem?_eq_some_iff.1 hg).1
theorem FE.set {w:World}{g k:Nat}{l:List Ex}{e:Ex}(h:FE w g l k)(he:l[k]?=some e):FE ((w.setCell ⟨g,k*2,none⟩ (.string e.n)).setCell ⟨g,k*2+1,none⟩ (.int .i64 e.k)) g l (k+1):=by
 obtain⟨cur,h1,h2,h3⟩:=h
 have hk:=(List.getElem?_eq_some_iff.1 he).1
 have s0:=heap_setCell_same w g (k*2) cur _ (.string e.n) h1
 have s1:=heap_setCell_same (w.setCell ⟨g,k*2,none⟩ (.string e.n)) g (k*2+1) (cur.setIfInBounds (k*2) (.string e.n)) _ (.int .i64 e.k) s0
 refine⟨_,s1,by simpa using h2,fun i f hi hf=>?_⟩
 by_cases ei:i=k
 ·subst ei
  rw [he] at hf
  cases hf
  simp [Array.getElem?_setIfInBounds]
  omega
 ·have hold:=h3 i f (by omega) hf
  simp only [Array.getElem?_setIfInBounds]
  repeat rw [if_neg (by omega)]
  exact hold
theorem FE.all {w:World}{g:Nat}{l:List Ex}(h:FE w g l l.length):RE w g l:=by
 have hlt:=h.lt
 obtain⟨cur,hg,_,hc⟩:=h
 refine⟨hlt,fun i e he=>?_⟩
 have hx:=hc i e (List.getElem?_eq_some_iff.1 he).1 he
 simp only [World.cell?,hg]
 simpa using hx
theorem madeE (w:World)(l:List Ex):FE (w.alloc (.cells (madeCells #[.string ByteArray.empty,.int .i64 0] (l.length*2)) 125)) w.heap.size l 0 :=
 ⟨_,heap_alloc_new w _,Nat.le_of_eq (size_madeCells _ _).symm,fun i e hi=>by omega⟩
theorem to_allE (l:List Ex)(a:Option Addr)(cap:Nat)(w:World)(hl:l.length <= 1048576)(hS:SE w w.heap.size a l) :
  Calls Tryz.prog 86 #[.slice a l.length cap] w fun e w'=>e=.returned (.slice (some ⟨w.heap.size,0,none⟩) l.length l.length)/\RE w' w.heap.size l/\Below w.heap.size w w':=by
 obtain⟨i0,hi,hz0,hz1,hz2⟩:∃ i0,Tryz.prog.info? 125=some i0/\i0.zero=some (.agg #[.string ByteArray.empty,.int .i64 0])/\i0.size=2/\i0.bytes=24:=by
  have h:=infoE
  cases hh:Tryz.prog.info? 125 with
  | none=>rw [hh] at h;cases h
  | some i=>rw [hh] at h;simp at h;exact⟨i,rfl,h.1,h.2.1,h.2.2⟩
 have hmk:=run_makeSlice (P:=Tryz.prog) w 32 125 i0 _ Tryz.underlying32 hi hz0 .i64 .i64 (l.length:Int) (l.length:Int) (by omega) (Int.le_refl _) (by rw [hz1];simp;omega) (by rw [hz2];omega) (by omega)
 rw [hz1,show ((l.length:Int)).toNat=l.length by omega] at hmk
 have hmk2:(Instr.makeSlice 32 (.int .i64 (l.length:Int)) (.int .i64 (l.length:Int))).run Tryz.prog w=.ok (.slice (some ⟨w.heap.size,0,none⟩) l.length l.length) (w.alloc (.cells (madeCells #[.string ByteArray.empty,.int .i64 0] (l.length*2)) 125)):=hmk
 have hf0:=madeE w l
 have hb0:Below w.heap.size w (w.alloc (.cells (madeCells #[.string ByteArray.empty,.int .i64 0] (l.length*2)) 125)):=(Below.refl _ _).alloc (Nat.le_refl _) _
 obtain⟨W,hW⟩:∃ W,w.alloc (.cells (madeCells #[.string ByteArray.empty,.int .i64 0] (l.length*2)) 125)=W:=⟨_,rfl⟩
 rw [hW] at hmk2 hf0 hb0
 have HF0:Hid (FE W w.heap.size l 0):=hf0
 clear hmk hW hf0
 rcases hS with rfl | ⟨b,off,rfl,hlt,hc⟩
 ·have hmk3:(Instr.makeSlice 32 (.int .i64 0) (.int .i64 0)).run Tryz.prog w=.ok (.slice (some ⟨w.heap.size,0,none⟩) 0 0) W:=by simpa using hmk2
  clear hmk2
  go_enter Tryz.func86,Tryz.ntmps86
  go_wp2
  refine wp_loop_rounds 1 ?_
  rw [rounds_succ]
  go_wp2
  go_ret
  exact⟨rfl,HF0.out.all,hb0⟩
 ·have HC:Hid (∀ (i:Nat) (e:Ex),l[i]?=some e->w.cell? ⟨b,off+i*2,none⟩=some (.string e.n)/\w.cell? ⟨b,off+i*2+1,none⟩=some (.int .i64 e.k)):=hc
  clear hc
  go_enter Tryz.func86,Tryz.ntmps86
  go_wp2
  go_loopw [4] (fun x wr=>∃ k:Nat,k <= l.length/\x=.int .i64 k/\Below w.heap.size w wr/\Hid (FE wr w.heap.size l k)) (fun x _=>l.length - (intOf x).toNat)
  case atStart=>exact⟨0,Nat.zero_le _,rfl,hb0,HF0⟩
  case round =>
   obtain⟨k,hk,rfl,hbel,hf⟩:=hrel
   have hbs:=hbel.size
   by_cases hkl:k<l.length
   ·have g0:l[k]?=some l[k]:=List.getElem?_eq_getElem hkl
    obtain⟨a0,a1⟩:=HC.out k l[k] g0
    have c0:=(hbel.cell (p:=⟨b,off+k*2,none⟩) hlt).trans a0
    have c1:=(hbel.cell (p:=⟨b,off+k*2+1,none⟩) hlt).trans a1
    have HG:Hid (l[k]?=some l[k]):=g0
    obtain⟨⟨en,ek⟩,he⟩:∃ e,l[k]=e:=⟨_,rfl⟩
    rw [he] at c0 c1 HG
    have hone:=to_oneE ⟨en,ek⟩ wr
    have hfl:=hf.out.lt
    clear g0 he a0 a1
    go_wp2_with (go_at_call 154;refine hone.mono ?_;rintro e w1 ⟨rfl,hb1⟩;have hf1:=hf.out.below hb1 hfl;obtain⟨v0,g0⟩:=hf1.at (k*2) (by omega);have z0:=hf1.free (k*2);obtain⟨v1,g1⟩:=hf1.at (k*2+1) (by omega);have z1:=hf1.free (k*2+1);have HN:Hid (FE ((w1.setCell ⟨w.heap.size,k*2,none⟩ (.string en)).setCell ⟨w.heap.size,k*2+1,none⟩ (.int .i64 ek)) w.heap.size l (k+1)):=FE.set (e:=⟨en,ek⟩) hf1 HG.out;clear hf1)
    go_roundw
    case rel=>exact⟨k+1,by omega,by go_num,(((hbel.trans (hb1.mono hbs)).setCell (Nat.le_refl _) _).setCell (Nat.le_refl _) _),HN⟩
    case measure=>simp [intOf];omega
   ·obtain rfl:k=l.length:=by omega
    go_wp2
    go_ret
    exact⟨rfl,hf.out.all,hbel⟩
theorem infoB:(Tryz.prog.info? 127).map (fun i=>(i.zero,i.size,i.bytes))=some (some (.agg #[.string ByteArray.empty,.string ByteArray.empty,.string ByteArray.empty]),3,48):=by kernel_rfl
def FB (w:World)(g:Nat)(l:List Bi)(k:Nat):Prop:=∃ cur,w.heap[g]?=some (.cells cur 127 (0,0))/\l.length*3 <= cur.size/\∀ (i:Nat) (e:Bi),i<k->l[i]?=some e->cur[i*3]?=some (.string e.x)/\cur[i*3+1]?=some (.string e.k)/\cur[i*3+2]?=some (.string e.q)
theorem FB.at {w:World}{g k:Nat}{l:List Bi}(h:FB w g l k)(o:Nat)(ho:o<l.length*3):∃ v,w.cell? ⟨g,o,none⟩=some v:=by
 obtain⟨cur,hg,hs,_⟩:=h
 exact⟨cur[o]'(by omega),by simp [World.cell?,hg,Array.getElem?_eq_getElem (show o<cur.size by omega)]⟩
theorem FB.free {w:World}{g k:Nat}{l:List Bi}(h:FB w g l k)(o:Nat):w.frozen? ⟨g,o,none⟩=false:=by
 obtain⟨cur,hg,_⟩:=h
 simp [World.frozen?,hg]
theorem FB.below {w w':World}{g k B:Nat}{l:List Bi}(h:FB w g l k)(hb:Below B w w')(hg:g<B):FB w' g l k:=by
 obtain⟨cur,h1,h2⟩:=h
 exact⟨cur,by rw [hb.block g hg];exact h1,h2⟩
theorem FB.lt {w:World}{g k:Nat}{l:List Bi}(h:FB w g l k):g<w.heap.size:=by
 obtain⟨cur,hg,_⟩:=h
 exact(Array.getElem?_eq_some_iff.1 hg).1
theorem FB.set {w:World}{g k:Nat}{l:List Bi}{e:Bi}(h:FB w g l k)(he:l[k]?=some e):FB (((w.setCell ⟨g,k*3,none⟩ (.string e.x)).setCell ⟨g,k*3+1,none⟩ (.string e.k)).setCell ⟨g,k*3+2,none⟩ (.string e.q)) g l (k+1):=by
 obtain⟨cur,h1,h2,h3⟩:=h
 have hk:=(List.getElem?_eq_some_iff.1 he).1
 have s0:=heap_setCell_same w g (k*3) cur _ (.string e.x) h1
 have s1:=heap_setCell_same (w.setCell ⟨g,k*3,none⟩ (.string e.x)) g (k*3+1) (cur.setIfInBounds (k*3) (.string e.x)) _ (.string e.k) s0
 have s2:=heap_setCell_same ((w.setCell ⟨g,k*3,none⟩ (.string e.x)).setCell ⟨g,k*3+1,none⟩ (.string e.k)) g (k*3+2) ((cur.setIfInBounds (k*3) (.string e.x)).setIfInBounds (k*3+1) (.string e.k)) _ (.string e.q) s1
 refine⟨_,s2,by simpa using h2,fun i f hi hf=>?_⟩
 by_cases ei:i=k
 ·subst ei
  rw [he] at hf
  cases hf
  simp [Array.getElem?_setIfInBounds]
  omega
 ·have hold:=h3 i f (by omega) hf
  simp only [Array.getElem?_setIfInBounds]
  repeat rw [if_neg (by omega)]
  exact hold
theorem FB.all {w:World}{g:Nat}{l:List Bi}(h:FB w g l l.length):RB w g l:=by
 have hlt:=h.lt
 obtain⟨cur,hg,_,hc⟩:=h
 refine⟨hlt,fun i e he=>?_⟩
 have hx:=hc i e (List.getElem?_eq_some_iff.1 he).1 he
 simp only [World.cell?,hg]
 simpa using hx
theorem madeB (w:World)(l:List Bi):FB (w.alloc (.cells (madeCells #[.string ByteArray.empty,.string ByteArray.empty,.string ByteArray.empty] (l.length*3)) 127)) w.heap.size l 0 :=
 ⟨_,heap_alloc_new w _,Nat.le_of_eq (size_madeCells _ _).symm,fun i e hi=>by omega⟩
theorem to_allB (l:List Bi)(a:Option Addr)(cap:Nat)(w:World)(hl:l.length <= 1048576)(hS:SB w w.heap.size a l) :
  Calls Tryz.prog 87 #[.slice a l.length cap] w fun e w'=>e=.returned (.slice (some ⟨w.heap.size,0,none⟩) l.length l.length)/\RB w' w.heap.size l/\Below w.heap.size w w':=by
 obtain⟨i0,hi,hz0,hz1,hz2⟩:∃ i0,Tryz.prog.info? 127=some i0/\i0.zero=some (.agg #[.string ByteArray.empty,.string ByteArray.empty,.string ByteArray.empty])/\i0.size=3/\i0.bytes=48:=by
  have h:=infoB
  cases hh:Tryz.prog.info? 127 with
  | none=>rw [hh] at h;cases h
  | some i=>rw [hh] at h;simp at h;exact⟨i,rfl,h.1,h.2.1,h.2.2⟩
 have hmk:=run_makeSlice (P:=Tryz.prog) w 33 127 i0 _ Tryz.underlying33 hi hz0 .i64 .i64 (l.length:Int) (l.length:Int) (by omega) (Int.le_refl _) (by rw [hz1];simp;omega) (by rw [hz2];omega) (by omega)
 rw [hz1,show ((l.length:Int)).toNat=l.length by omega] at hmk
 have hmk2:(Instr.makeSlice 33 (.int .i64 (l.length:Int)) (.int .i64 (l.length:Int))).run Tryz.prog w=.ok (.slice (some ⟨w.heap.size,0,none⟩) l.length l.length) (w.alloc (.cells (madeCells #[.string ByteArray.empty,.string ByteArray.empty,.string ByteArray.empty] (l.length*3)) 127)):=hmk
 have hf0:=madeB w l
 have hb0:Below w.heap.size w (w.alloc (.cells (madeCells #[.string ByteArray.empty,.string ByteArray.empty,.string ByteArray.empty] (l.length*3)) 127)):=(Below.refl _ _).alloc (Nat.le_refl _) _
 obtain⟨W,hW⟩:∃ W,w.alloc (.cells (madeCells #[.string ByteArray.empty,.string ByteArray.empty,.string ByteArray.empty] (l.length*3)) 127)=W:=⟨_,rfl⟩
 rw [hW] at hmk2 hf0 hb0
 have HF0:Hid (FB W w.heap.size l 0):=hf0
 clear hmk hW hf0
 rcases hS with rfl | ⟨b,off,rfl,hlt,hc⟩
 ·have hmk3:(Instr.makeSlice 33 (.int .i64 0) (.int .i64 0)).run Tryz.prog w=.ok (.slice (some ⟨w.heap.size,0,none⟩) 0 0) W:=by simpa using hmk2
  clear hmk2
  go_enter Tryz.func87,Tryz.ntmps87
  go_wp2
  refine wp_loop_rounds 1 ?_
  rw [rounds_succ]
  go_wp2
  go_ret
  exact⟨rfl,HF0.out.all,hb0⟩
 ·have HC:Hid (∀ (i:Nat) (e:Bi),l[i]?=some e->w.cell? ⟨b,off+i*3,none⟩=some (.string e.x)/\w.cell? ⟨b,off+i*3+1,none⟩=some (.string e.k)/\w.cell? ⟨b,off+i*3+2,none⟩=some (.string e.q)):=hc
  clear hc
  go_enter Tryz.func87,Tryz.ntmps87
  go_wp2
  go_loopw [4] (fun x wr=>∃ k:Nat,k <= l.length/\x=.int .i64 k/\Below w.heap.size w wr/\Hid (FB wr w.heap.size l k)) (fun x _=>l.length - (intOf x).toNat)
  case atStart=>exact⟨0,Nat.zero_le _,rfl,hb0,HF0⟩
  case round =>
   obtain⟨k,hk,rfl,hbel,hf⟩:=hrel
   have hbs:=hbel.size
   by_cases hkl:k<l.length
   ·have g0:l[k]?=some l[k]:=List.getElem?_eq_getElem hkl
    obtain⟨a0,a1,a2⟩:=HC.out k l[k] g0
    have c0:=(hbel.cell (p:=⟨b,off+k*3,none⟩) hlt).trans a0
    have c1:=(hbel.cell (p:=⟨b,off+k*3+1,none⟩) hlt).trans a1
    have c2:=(hbel.cell (p:=⟨b,off+k*3+2,none⟩) hlt).trans a2
    have HG:Hid (l[k]?=some l[k]):=g0
    obtain⟨⟨ex,ek,eq⟩,he⟩:∃ e,l[k]=e:=⟨_,rfl⟩
    rw [he] at c0 c1 c2 HG
    have hone:=to_oneB ⟨ex,ek,eq⟩ wr
    have hfl:=hf.out.lt
    clear g0 he a0 a1 a2
    go_wp2_with (go_at_call 155;refine hone.mono ?_;rintro e w1 ⟨rfl,hb1⟩;have hf1:=hf.out.below hb1 hfl;obtain⟨v0,g0⟩:=hf1.at (k*3) (by omega);have z0:=hf1.free (k*3);obtain⟨v1,g1⟩:=hf1.at (k*3+1) (by omega);have z1:=hf1.free (k*3+1);obtain⟨v2,g2⟩:=hf1.at (k*3+2) (by omega);have z2:=hf1.free (k*3+2);have HN:Hid (FB (((w1.setCell ⟨w.heap.size,k*3,none⟩ (.string ex)).setCell ⟨w.heap.size,k*3+1,none⟩ (.string ek)).setCell ⟨w.heap.size,k*3+2,none⟩ (.string eq)) w.heap.size l (k+1)):=FB.set (e:=⟨ex,ek,eq⟩) hf1 HG.out;clear hf1)
    go_roundw
    case rel=>exact⟨k+1,by omega,by go_num,((((hbel.trans (hb1.mono hbs)).setCell (Nat.le_refl _) _).setCell (Nat.le_refl _) _).setCell (Nat.le_refl _) _),HN⟩
    case measure=>simp [intOf];omega
   ·obtain rfl:k=l.length:=by omega
    go_wp2
    go_ret
    exact⟨rfl,hf.out.all,hbel⟩
end Go.Proofs.YteoojodkkjepeaaGreat.rt
namespace Go.Proofs.YteoojodkkjepeaaGreat.rl
open ChangeShapes WideShapes ChangeAt RowKit rr ra rt
theorem eq_oneE (e:Ex)(w:World):Calls Tryz.prog 169 #[.agg #[.string e.n,.int .i64 e.k],.agg #[.string e.n,.int .i64 e.k]] w fun r w'=>r=.returned (.bool true)/\Below w.heap.size w w':=by
 obtain⟨en,ek⟩:=e
 go_enter Tryz.func169,Tryz.ntmps169
 go_wp2
 go_ret
 exact⟨rfl,((Below.refl _ _).alloc (Nat.le_refl _) _).alloc (by simp) _⟩
theorem eq_oneB (e:Bi)(w:World):Calls Tryz.prog 170 #[.agg #[.string e.x,.string e.k,.string e.q],.agg #[.string e.x,.string e.k,.string e.q]] w fun r w'=>r=.returned (.bool true)/\Below w.heap.size w w':=by
 obtain⟨ex,ek,eq⟩:=e
 go_enter Tryz.func170,Tryz.ntmps170
 go_wp2
 go_ret
 exact⟨rfl,((Below.refl _ _).alloc (Nat.le_refl _) _).alloc (by simp) _⟩
theorem SE.inn {w W:World}{a:Option Addr}{l:List Ex}(h:SE w w.heap.size a l)(hb:Below w.heap.size w W):SE W W.heap.size a l:=by
 rcases h with h | ⟨b,off,ha,hlt,hc⟩
 ·exact .inl h
 ·refine .inr ⟨b,off,ha,Nat.lt_of_lt_of_le hlt hb.size,fun i e he=>?_⟩
  obtain⟨h1,h2⟩:=hc i e he
  exact⟨(hb.cell (p:=⟨b,_,none⟩) hlt).trans h1,(hb.cell (p:=⟨b,_,none⟩) hlt).trans h2⟩
theorem SB.inn {w W:World}{a:Option Addr}{l:List Bi}(h:SB w w.heap.size a l)(hb:Below w.heap.size w W):SB W W.heap.size a l:=by
 rcases h with h | ⟨b,off,ha,hlt,hc⟩
 ·exact .inl h
 ·refine .inr ⟨b,off,ha,Nat.lt_of_lt_of_le hlt hb.size,fun i e he=>?_⟩
  obtain⟨h1,h2,h3⟩:=hc i e he
  exact⟨(hb.cell (p:=⟨b,_,none⟩) hlt).trans h1,(hb.cell (p:=⟨b,_,none⟩) hlt).trans h2,(hb.cell (p:=⟨b,_,none⟩) hlt).trans h3⟩
theorem sz_routes (es:List Ex)(bs:List Bi)(ea ba:Option Addr)(ec bc:Nat)(w:World)(hel:es.length <= maxLen)(hbl:bs.length <= maxLen)(hes:∀ e∈es,e.n.size <= maxLen)(hbs:∀ e∈bs,e.x.size <= maxLen/\e.k.size <= maxLen/\e.q.size <= maxLen)(hE:SE w w.heap.size ea es)(hB:SB w w.heap.size ba bs) :
  Calls Tryz.prog 30 #[.agg #[.slice ea es.length ec,.slice ba bs.length bc],.int .i64 1048576] w fun e w'=>∃ r:Int,e=.returned (.int .i64 r)/\(0 <= r->es.length+bulkE es+bs.length+bulkB bs <= 1048576)/\Below w.heap.size w w':=by
 have hb:Below w.heap.size w (w.alloc (.cells #[.slice ea es.length ec,.slice ba bs.length bc] 25)):=(Below.refl _ _).alloc (Nat.le_refl _) _
 have hA:=heap_alloc_new w (.cells #[.slice ea es.length ec,.slice ba bs.length bc] 25)
 obtain⟨W,hW⟩:∃ W,w.alloc (.cells #[.slice ea es.length ec,.slice ba bs.length bc] 25)=W:=⟨_,rfl⟩
 rw [hW] at hb hA
 have he:=sz_allE es ea ec 1048576 W hel hes (by omega) (by omega) (SE.inn hE hb)
 have HB3:Hid (SB W W.heap.size ba bs):=SB.inn hB hb
 have x0:W.cell? ⟨w.heap.size,0,none⟩=some (.slice ea es.length ec):=by simp [World.cell?,hA]
 have HA:Hid (W.heap[w.heap.size]?=some (.cells #[.slice ea es.length ec,.slice ba bs.length bc] 25 (0,0))):=hA
 have la:=(Array.getElem?_eq_some_iff.1 hA).1
 have HBS:Hid (∀ e∈bs,e.x.size <= maxLen/\e.k.size <= maxLen/\e.q.size <= maxLen):=hbs
 clear hE hB hA hes hbs
 go_enter Tryz.func30,Tryz.ntmps30
 go_wp2_with (go_at_call 75;fail)
 refine he.mono ?_
 rintro e w1 ⟨r,rfl,hr,hr0,hr1,hb1⟩
 clear hW x0
 by_cases hneg:r<0
 ·go_wp2
  go_ret
  exact⟨-1,rfl,by omega,hb.trans (hb1.mono hb.size)⟩
 ·have x1:w1.cell? ⟨w.heap.size,1,none⟩=some (.slice ba bs.length bc):=by
   have:=(hb1.block w.heap.size la).trans HA.out
   simp [World.cell?,this]
  have hq:=sz_allB bs ba bc r w1 hbl HBS.out (by omega) (by omega) (SB.inn HB3.out hb1)
  have HR:Hid (r=1048576 - es.length - bulkE es):=hr (by omega)
  clear he hr
  go_wp2_with (go_at_call 76;fail)
  refine hq.mono ?_
  rintro e w2 ⟨r2,rfl,hr2,hr20,hr21,hb2⟩
  have hfin:Below w.heap.size w w2:=hb.trans ((hb1.trans (hb2.mono hb1.size)).mono hb.size)
  have HR2:Hid (0 <= r2->r2=r - bs.length - bulkB bs):=hr2
  clear hq hr2
  by_cases hneg2:r2<0
  ·go_wp2
   go_ret
   exact⟨-1,rfl,by omega,hfin⟩
  ·go_wp2
   go_ret
   exact⟨r2,rfl,fun h=>by have h1:=HR2.out h;have h2:=HR.out;omega,hfin⟩
theorem RE.set {w:World}{g:Nat}{l:List Ex}(h:RE w g l){p:Addr}(hne:g≠p.block)(v:Value):RE (w.setCell p v) g l:=by
 have hblk:(w.setCell p v).heap[g]?=w.heap[g]?:=Below.heap_setCell w p v g hne
 refine⟨by simpa using h.1,fun i e he=>?_⟩
 obtain⟨h1,h2⟩:=h.2 i e he
 exact⟨(World.cell?_of_block (a:=⟨g,_,none⟩) hblk).trans h1,(World.cell?_of_block (a:=⟨g,_,none⟩) hblk).trans h2⟩
theorem RB.set {w:World}{g:Nat}{l:List Bi}(h:RB w g l){p:Addr}(hne:g≠p.block)(v:Value):RB (w.setCell p v) g l:=by
 have hblk:(w.setCell p v).heap[g]?=w.heap[g]?:=Below.heap_setCell w p v g hne
 refine⟨by simpa using h.1,fun i e he=>?_⟩
 obtain⟨h1,h2,h3⟩:=h.2 i e he
 exact⟨(World.cell?_of_block (a:=⟨g,_,none⟩) hblk).trans h1,(World.cell?_of_block (a:=⟨g,_,none⟩) hblk).trans h2,(World.cell?_of_block (a:=⟨g,_,none⟩) hblk).trans h3⟩
end Go.Proofs.YteoojodkkjepeaaGreat.rl
namespace Go.Proofs.YteoojodkkjepeaaGreat.cb
open ChangeShapes WideShapes ChangeAt RowKit rr fl
def fin (s:Nat)(x k q:ByteArray):Act:={ tmps:=#[.agg #[.string x,.string k,.string q],.pointer (some ⟨s,0,none⟩),.pointer (some ⟨s+1,0,none⟩),.pointer (some ⟨s,0,none⟩),.string x,.string x,.pointer (some ⟨s,1,none⟩),.string k,.string k,.pointer (some ⟨s,2,none⟩),.string q,.string q,.agg #[.string x,.string k,.string q]],defers:=[] }
def D (w:World)(x k q:ByteArray)(b:Bool)(W:World):Prop :=
 Below w.heap.size w W/\W.heap[w.heap.size]?=some (.cells #[.string x,.string k,.string q] 127 (0,0)) /\
  W.heap[w.heap.size+1]?=some (.cells (if b then #[.string x,.string k,.string q] else #[.string ByteArray.empty,.string ByteArray.empty,.string ByteArray.empty]) 127 (0,0))
theorem D.on {w:World}{x k q:ByteArray}{b:Bool}{W W':World}(h:D w x k q b W)(hb:Below W.heap.size W W'):D w x k q b W':=by
 obtain⟨h1,h2,h3⟩:=h
 have hs:w.heap.size+1<W.heap.size:=(Array.getElem?_eq_some_iff.1 h3).1
 exact⟨h1.trans (hb.mono h1.size),bstay h2 hb (by omega),bstay h3 hb hs⟩
theorem copy_binding (e:Bi)(w:World)(hx:e.x.size <= 1048576/\e.k.size <= 1048576/\e.q.size <= 1048576):Calls Tryz.prog 175 #[.agg #[.string e.x,.string e.k,.string e.q]] w fun r w'=>r=.returned (.agg #[.string e.x,.string e.k,.string e.q])/\Below w.heap.size w w':=by
 obtain⟨x,k,q⟩:=e
 obtain⟨hx1,hx2,hx3⟩:=hx
 have cl1:=fun W=>cl.clone x W (by have:x.size <= 1048576:=hx1;omega)
 have cl2:=fun W=>cl.clone k W (by have:k.size <= 1048576:=hx2;omega)
 have cl3:=fun W=>cl.clone q W (by have:q.size <= 1048576:=hx3;omega)
 have h0:D w x k q false ((w.alloc (.cells #[.string x,.string k,.string q] 127)).alloc (.cells #[.string ByteArray.empty,.string ByteArray.empty,.string ByteArray.empty] 127)).drew:=by
  refine⟨(((Below.refl _ _).alloc (Nat.le_refl _) _).alloc (by simp) _).drew,?_,?_⟩
  ·exact bold (bnew w _ _) _
  ·have:=bnew (w.alloc (.cells #[.string x,.string k,.string q] 127)) #[.string ByteArray.empty,.string ByteArray.empty,.string ByteArray.empty] 127
   rw [World.size_alloc] at this
   exact this
 go_enter Tryz.func175,Tryz.ntmps175
 go_wp2
 refine dn.region_done (fin w.heap.size x k q) (dk.Cl (D w x k q) 10) (by kernel_rfl) (by kernel_rfl) rfl rfl [0,1,2] (by kernel_rfl) (fun s hs=>by simp at hs;rcases hs with rfl | rfl | rfl <;> rfl) h0 ?each ?fin
 case each =>
  refine⟨dk.q (by decide) (.pointer (some ⟨w.heap.size,0,none⟩)) (by rintro _ ⟨⟩;rfl) (fun b W h=>by simp [execOp,go_sem,fin,Act.eval]),?_⟩
  refine⟨dk.q (by decide) (.string x) (by rintro _ ⟨⟩;rfl) (fun b W h=>by have c:W.cell? ⟨w.heap.size,0,none⟩=some (.string x):=bcell h.2.1 rfl;simp [execOp,go_sem,fin,Act.eval,c]),?_⟩
  refine⟨dk.call (by decide) 56 #[.string x] (.string x) (by rintro _ ⟨⟩;rfl) (fun b W h=>by simp [go_sem,fin,Act.eval]) (fun b W h=>(cl1 W).mono fun e w' ⟨h1,h2⟩=>⟨h1,h.on h2⟩),?_⟩
  refine⟨dk.q (by decide) (.pointer (some ⟨w.heap.size,1,none⟩)) (by rintro _ ⟨⟩;rfl) (fun b W h=>by simp [execOp,go_sem,fin,Act.eval]),?_⟩
  refine⟨dk.q (by decide) (.string k) (by rintro _ ⟨⟩;rfl) (fun b W h=>by have c:W.cell? ⟨w.heap.size,1,none⟩=some (.string k):=bcell h.2.1 rfl;simp [execOp,go_sem,fin,Act.eval,c]),?_⟩
  refine⟨dk.call (by decide) 56 #[.string k] (.string k) (by rintro _ ⟨⟩;rfl) (fun b W h=>by simp [go_sem,fin,Act.eval]) (fun b W h=>(cl2 W).mono fun e w' ⟨h1,h2⟩=>⟨h1,h.on h2⟩),?_⟩
  refine⟨dk.q (by decide) (.pointer (some ⟨w.heap.size,2,none⟩)) (by rintro _ ⟨⟩;rfl) (fun b W h=>by simp [execOp,go_sem,fin,Act.eval]),?_⟩
  refine⟨dk.q (by decide) (.string q) (by rintro _ ⟨⟩;rfl) (fun b W h=>by have c:W.cell? ⟨w.heap.size,2,none⟩=some (.string q):=bcell h.2.1 rfl;simp [execOp,go_sem,fin,Act.eval,c]),?_⟩
  refine⟨dk.call (by decide) 56 #[.string q] (.string q) (by rintro _ ⟨⟩;rfl) (fun b W h=>by simp [go_sem,fin,Act.eval]) (fun b W h=>(cl3 W).mono fun e w' ⟨h1,h2⟩=>⟨h1,h.on h2⟩),?_⟩
  refine⟨dk.q (by decide) (.agg #[.string x,.string k,.string q]) (by rintro _ ⟨⟩;rfl) (fun b W h=>by simp [execOp,go_sem,fin,Act.eval]),?_⟩
  refine⟨dk.last rfl (fun W h=>?_),trivial⟩
  obtain⟨h1,h2,h3⟩:=h
  have c0:W.cell? ⟨w.heap.size+1,0,none⟩=some (.string ByteArray.empty):=bcell h3 rfl
  have c1:W.cell? ⟨w.heap.size+1,1,none⟩=some (.string ByteArray.empty):=bcell h3 rfl
  have c2:W.cell? ⟨w.heap.size+1,2,none⟩=some (.string ByteArray.empty):=bcell h3 rfl
  have f0:=bfree h3 0
  have f1:=bfree h3 1
  have f2:=bfree h3 2
  refine⟨((W.setCell ⟨w.heap.size+1,0,none⟩ (.string x)).setCell ⟨w.heap.size+1,1,none⟩ (.string k)).setCell ⟨w.heap.size+1,2,none⟩ (.string q),by simp [execOp,go_sem,fin,Act.eval,c0,c1,c2,f0,f1,f2],?_,?_,?_⟩
  ·exact((h1.setCell (by show w.heap.size <= w.heap.size+1;omega) _).setCell (by show w.heap.size <= w.heap.size+1;omega) _).setCell (by show w.heap.size <= w.heap.size+1;omega) _
  ·exact boff (boff (boff h2 _ _ _ (by omega)) _ _ _ (by omega)) _ _ _ (by omega)
  ·exact bset (bset (bset h3 0 (.string x)) 1 (.string k)) 2 (.string q)
 case fin =>
  intro L W hL hC
  have hC':D w x k q true W:=by
   have:=hL 10 (by decide)
   unfold dk.Cl at hC
   rw [this] at hC
   exact hC
  obtain⟨h1,h2,h3⟩:=hC'
  have c0:W.cell? ⟨w.heap.size+1,0,none⟩=some (.string x):=bcell h3 rfl
  have c1:W.cell? ⟨w.heap.size+1,1,none⟩=some (.string k):=bcell h3 rfl
  have c2:W.cell? ⟨w.heap.size+1,2,none⟩=some (.string q):=bcell h3 rfl
  unfold fin
  go_wp2
  refine bodyPost_ret (v:=.agg #[.string x,.string k,.string q]) (by simp [results,Tryz.results175,go_sem,c0,c1,c2]) rfl ⟨rfl,h1⟩
end Go.Proofs.YteoojodkkjepeaaGreat.cb
