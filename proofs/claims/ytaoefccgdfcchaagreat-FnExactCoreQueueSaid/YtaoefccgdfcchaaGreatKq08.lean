/- QuTos, QuMarks, QuMarkW. -/
import Derived.Test.YtaoefccgdfcchaaGreatKq07
set_option maxRecDepth 100000
set_option maxHeartbeats 8000000
set_option linter.unusedVariables false
namespace Go.Proofs.YtaoefccgdfcchaaGreat.qu
open ChangeShapes WideShapes ChangeAt RowKit fl
def same (r s:E):Prop:=r.nm=s.nm/\r.nx=s.nx/\r.rs=s.rs/\r.hs=s.hs
def Mine (w:World) (B:Nat) (r:E):Prop:=∃ g h,r.ra=some ⟨g,0,none⟩/\r.ha=some ⟨h,0,none⟩/\B <= g/\B <= h/\g ≠ h/\Own flM.c 5 129 w g r.rs r.rs.length/\Own flH.c 7 131 w h r.hs r.hs.length/\r.rs.length <= r.rc/\r.hs.length <= r.hc
theorem Mine.below {w w':World} {B:Nat} {r:E} (m:Mine w B r) (hb:Below w.heap.size w w'):Mine w' B r:=by
 obtain ⟨g,h,h1,h2,h3,h4,h0,h5,h6,h7⟩:=m
 exact ⟨g,h,h1,h2,h3,h4,h0,h5.below hb h5.lt,h6.below hb h6.lt,h7⟩
theorem Mine.set {w:World} {B:Nat} {r:E} (m:Mine w B r) {x o:Nat} (hx:x < B) (v:Value):Mine (w.setCell ⟨x,o,none⟩ v) B r:=by
 obtain ⟨g,h,h1,h2,h3,h4,h0,h5,h6,h7⟩:=m
 exact ⟨g,h,h1,h2,h3,h4,h0,h5.kept (Below.heap_setCell _ _ _ _ (by show g ≠ x; omega)),h6.kept (Below.heap_setCell _ _ _ _ (by show h ≠ x; omega)),h7⟩
def Blk (r:E) (b:Nat):Prop:=(∃ o,r.ra=some ⟨b,o,none⟩) ∨ ∃ o,r.ha=some ⟨b,o,none⟩
theorem Mine.lt {w:World} {B b:Nat} {r:E} (m:Mine w B r) (hb:Blk r b):B <= b/\b < w.heap.size:=by
 obtain ⟨g,h,h1,h2,h3,h4,h0,h5,h6,h7⟩:=m
 rcases hb with ⟨o,e⟩ | ⟨o,e⟩
 ·rw [h1] at e; cases e; exact ⟨h3,h5.lt⟩
 ·rw [h2] at e; cases e; exact ⟨h4,h6.lt⟩
theorem Mine.rows {w:World} {B:Nat} {r:E} (m:Mine w B r):Row flM.c 5 w w.heap.size r.ra r.rs/\Row flH.c 7 w w.heap.size r.ha r.hs:=by
 obtain ⟨g,h,h1,h2,h3,h4,h0,h5,h6,h7⟩:=m
 rw [h1,h2]
 exact ⟨h5.row,h6.row⟩
theorem own_change {w:World} {g k:Nat} {U:TypeId} {l l':List E} (h:Own c 4 U w g l k) (hl:l'.length=l.length) (he:∀ i,i < k->l'[i]?=l[i]?):Own c 4 U w g l' k:=by
 obtain ⟨cur,h1,h2,h3⟩:=h
 exact ⟨cur,h1,by rw [h2,hl],fun i e hi hx=>h3 i e hi (by rw [<- he i hi]; exact hx)⟩
structure So (w:World) (B g:Nat) (l ks:List E) (k:Nat):Prop where
 len:ks.length=l.length
 own:Own c 4 58 w g ks k
 mine:∀ (j:Nat) (r:E),j < k->ks[j]?=some r->Mine w B r
 same:∀ (j:Nat) (r s:E),j < k->ks[j]?=some r->l[j]?=some s->same r s
 ord:∀ (i j:Nat) (r s:E),i < j->j < k->ks[i]?=some r->ks[j]?=some s->∀ b b',Blk r b->Blk s b'->b < b'
theorem So.more {w:World} {B x k g h:Nat} {l ks:List E} {nm:ByteArray} {nx:Int} {ra ha:Option Addr} {rc hc:Nat} {rs:List flM.Ms} {hs:List flH.Hd} (so:So w B x l ks k) (hlo:∀ (j:Nat) (r:E),j < k->ks[j]?=some r->∀ b,Blk r b->b < g/\b < h) (hx:x < B) (hk:l[k]?=some ⟨nm,nx,ra,rc,rs,ha,hc,hs⟩) (hg:B <= g) (hh:B <= h) (hgh:g ≠ h) (h1:Own flM.c 5 129 w g rs rs.length) (h2:Own flH.c 7 131 w h hs hs.length) :
  So ((((w.setCell ⟨x,k*4,none⟩ (.string nm)).setCell ⟨x,k*4+1,none⟩ (.int .i64 nx)).setCell ⟨x,k*4+2,none⟩ (.slice (some ⟨g,0,none⟩) rs.length rs.length)).setCell ⟨x,k*4+3,none⟩ (.slice (some ⟨h,0,none⟩) hs.length hs.length)) B x l (ks.set k ⟨nm,nx,some ⟨g,0,none⟩,rs.length,rs,some ⟨h,0,none⟩,hs.length,hs⟩) (k+1):=by
 have hkl:=(List.getElem?_eq_some_iff.1 hk).1
 have hlen:=so.len
 have hget:(ks.set k ⟨nm,nx,some ⟨g,0,none⟩,rs.length,rs,some ⟨h,0,none⟩,hs.length,hs⟩)[k]?=some ⟨nm,nx,some ⟨g,0,none⟩,rs.length,rs,some ⟨h,0,none⟩,hs.length,hs⟩:=by rw [List.getElem?_set_self (by omega)]
 have hoff:∀ j,j < k->(ks.set k ⟨nm,nx,some ⟨g,0,none⟩,rs.length,rs,some ⟨h,0,none⟩,hs.length,hs⟩)[j]?=ks[j]?:=fun j hj=>List.getElem?_set_ne (by omega)
 have hm:∀ r,Mine w B r->Mine ((((w.setCell ⟨x,k*4,none⟩ (.string nm)).setCell ⟨x,k*4+1,none⟩ (.int .i64 nx)).setCell ⟨x,k*4+2,none⟩ (.slice (some ⟨g,0,none⟩) rs.length rs.length)).setCell ⟨x,k*4+3,none⟩ (.slice (some ⟨h,0,none⟩) hs.length hs.length)) B r:=fun r m=>((((m.set hx _).set hx _).set hx _).set hx _)
 refine ⟨by rw [List.length_set]; exact hlen,?_,fun j r hj hr=>?_,fun j r s hj hr hs=>?_,fun i j r s hij hj hr hs b b' hb hb'=>?_⟩
 ·have:=Own.set c_len (own_change so.own (by rw [List.length_set]) hoff) hget
  exact this
 ·rcases Nat.lt_or_ge j k with h3 | h3
  ·rw [hoff j h3] at hr
   exact hm r (so.mine j r h3 hr)
  ·obtain rfl:j=k:=by omega
   rw [hget] at hr
   cases hr
   exact hm _ ⟨g,h,rfl,rfl,hg,hh,hgh,h1,h2,Nat.le_refl _,Nat.le_refl _⟩
 ·rcases Nat.lt_or_ge j k with h3 | h3
  ·rw [hoff j h3] at hr
   exact so.same j r s h3 hr hs
  ·obtain rfl:j=k:=by omega
   rw [hget] at hr
   rw [hk] at hs
   cases hr
   cases hs
   exact ⟨rfl,rfl,rfl,rfl⟩
 ·rw [hoff i (by omega)] at hr
  rcases Nat.lt_or_ge j k with h3 | h3
  ·rw [hoff j h3] at hs
   exact so.ord i j r s hij h3 hr hs b b' hb hb'
  ·obtain rfl:j=k:=by omega
   rw [hget] at hs
   cases hs
   have h4:=hlo i r hij hr b hb
   rcases hb' with ⟨o,e⟩ | ⟨o,e⟩
   ·cases e; exact h4.1
   ·cases e; exact h4.2
theorem So.below {w w':World} {B g k:Nat} {l ks:List E} (so:So w B g l ks k) (hb:Below w.heap.size w w'):So w' B g l ks k:=⟨so.len,so.own.below hb so.own.lt,fun j r hj hr=>(so.mine j r hj hr).below hb,so.same,so.ord⟩
theorem So.set {w:World} {B g k:Nat} {l ks:List E} (so:So w B g l ks k) {x o:Nat} (hx:x < B) (hg:g ≠ x) (v:Value):So (w.setCell ⟨x,o,none⟩ v) B g l ks k:=⟨so.len,so.own.kept (Below.heap_setCell _ _ _ _ (by show g ≠ x; exact hg)),fun j r hj hr=>(so.mine j r hj hr).set hx v,so.same,so.ord⟩
theorem Mine.mono {w:World} {B B':Nat} {r:E} (m:Mine w B r) (h:B' <= B):Mine w B' r:=by
 obtain ⟨g,h',h1,h2,h3,h4,h5⟩:=m
 exact ⟨g,h',h1,h2,by omega,by omega,h5⟩
theorem So.mono {w:World} {B B' g k:Nat} {l ks:List E} (so:So w B g l ks k) (h:B' <= B):So w B' g l ks k:=⟨so.len,so.own,fun j r hj hr=>(so.mine j r hj hr).mono h,so.same,so.ord⟩
theorem So.v {w:World} {B g:Nat} {l ks:List E} (so:So w B g l ks l.length):V w w.heap.size (some ⟨g,0,none⟩) ks:=by
 have h:=so.own
 rw [<- so.len] at h
 refine ⟨h.row,fun r hr=>?_⟩
 obtain ⟨j,hj⟩:=List.mem_iff_getElem?.1 hr
 exact (so.mine j r (by have:=(List.getElem?_eq_some_iff.1 hj).1; have:=so.len; omega) hj).rows
theorem info:(Tryz.prog.info? 58).map (fun i=>(i.zero,i.size,i.bytes))=some (some (.agg #[.string ByteArray.empty,.int .i64 0,.slice none 0 0,.slice none 0 0]),4,72):=by kernel_rfl
theorem to_all (l:List E) (a:Option Addr) (cap:Nat) (w:World) (hl:l.length <= 1048576) (hx:∀ e ∈ l,e.rs.length <= 1048576/\e.hs.length <= 1048576) (hS:V w w.heap.size a l) :
  Calls Tryz.prog 19 #[.slice a l.length cap] w fun e w'=>∃ ks:List E,e=.returned (.slice (some ⟨w.heap.size,0,none⟩) l.length l.length)/\So w' (w.heap.size+1) w.heap.size l ks l.length/\Below w.heap.size w w':=by
 obtain ⟨i0,hi,hz0,hz1,hz2⟩:∃ i0,Tryz.prog.info? 58=some i0/\i0.zero=some (.agg #[.string ByteArray.empty,.int .i64 0,.slice none 0 0,.slice none 0 0])/\i0.size=4/\i0.bytes=72:=by
  have h:=info
  cases hh:Tryz.prog.info? 58 with
  | none=>rw [hh] at h; cases h
  | some i=>rw [hh] at h; simp at h; exact ⟨i,rfl,h.1,h.2.1,h.2.2⟩
 have hmk:=run_makeSlice (P:=Tryz.prog) w 35 58 i0 _ Tryz.underlying35 hi hz0 .i64 .i64 (l.length:Int) (l.length:Int) (by omega) (Int.le_refl _) (by rw [hz1]; simp; omega) (by rw [hz2]; omega) (by omega)
 rw [hz1,show ((l.length:Int)).toNat=l.length by omega] at hmk
 have hmk2:(Instr.makeSlice 35 (.int .i64 (l.length:Int)) (.int .i64 (l.length:Int))).run Tryz.prog w=.ok (.slice (some ⟨w.heap.size,0,none⟩) l.length l.length) (w.alloc (.cells (madeCells #[.string ByteArray.empty,.int .i64 0,.slice none 0 0,.slice none 0 0] (l.length*4)) 58)):=hmk
 have hf0:Own c 4 58 (w.alloc (.cells (madeCells #[.string ByteArray.empty,.int .i64 0,.slice none 0 0,.slice none 0 0] (l.length*4)) 58)) w.heap.size l 0:=made #[.string ByteArray.empty,.int .i64 0,.slice none 0 0,.slice none 0 0].toList w l rfl
 have hb0:=fl.bl w (.cells (madeCells #[.string ByteArray.empty,.int .i64 0,.slice none 0 0,.slice none 0 0] (l.length*4)) 58)
 obtain ⟨W,hW⟩:∃ W,w.alloc (.cells (madeCells #[.string ByteArray.empty,.int .i64 0,.slice none 0 0,.slice none 0 0] (l.length*4)) 58)=W:=⟨_,rfl⟩
 rw [hW] at hmk2 hf0 hb0
 have HF0:Hid (So W (w.heap.size+1) w.heap.size l l 0):=⟨rfl,hf0,fun j r hj=>by omega,fun j r s hj=>by omega,fun i j r s hij hj=>by omega⟩
 have HVR:Hid (∀ r ∈ l,Row flM.c 5 w w.heap.size r.ra r.rs/\Row flH.c 7 w w.heap.size r.ha r.hs):=hS.2
 clear hmk hW hf0
 rcases hS.1 with rfl | ⟨b,off,rfl,hlt,hc⟩
 ·have hmk3:(Instr.makeSlice 35 (.int .i64 0) (.int .i64 0)).run Tryz.prog w=.ok (.slice (some ⟨w.heap.size,0,none⟩) 0 0) W:=by simpa using hmk2
  clear hmk2
  go_enter Tryz.func19,Tryz.ntmps19
  go_wp2
  refine wp_loop_rounds 1 ?_
  rw [rounds_succ]
  go_wp2
  go_ret
  exact ⟨[],rfl,HF0.out,hb0⟩
 ·have HC:Hid (∀ (i:Nat) (e:E),l[i]?=some e->∀ (j:Nat) (v:Value),(c e)[j]?=some v->w.cell? ⟨b,off+i*4+j,none⟩=some v):=hc
  have HX:Hid (∀ e ∈ l,e.rs.length <= 1048576/\e.hs.length <= 1048576):=hx
  clear hc hx hS
  go_enter Tryz.func19,Tryz.ntmps19
  go_wp2
  go_loopw [4] (fun x wr=>∃ (k:Nat) (ks:List E),k <= l.length/\x=.int .i64 k/\Below w.heap.size w wr/\Hid (So wr (w.heap.size+1) w.heap.size l ks k)) (fun x _=>l.length - (intOf x).toNat)
  case atStart=>exact ⟨0,l,Nat.zero_le _,rfl,hb0,HF0⟩
  case round =>
   obtain ⟨k,ks,hk,rfl,hbel,hf⟩:=hrel
   have hbs:=hbel.size
   by_cases hkl:k < l.length
   ·have HG:Hid (l[k]?=some l[k]):=List.getElem?_eq_getElem hkl
    have hxs:=HX.out l[k] (List.getElem_mem hkl)
    have hrow:=HVR.out l[k] (List.getElem_mem hkl)
    obtain ⟨⟨nm,nx,ra,rc,rs,ha,hc,hs⟩,he⟩:∃ e,l[k]=e:=⟨_,rfl⟩
    rw [he] at HG hxs hrow
    have c0:wr.cell? ⟨b,off+k*4,none⟩=some (.string nm):=(hbel.cell (p:=⟨b,off+k*4,none⟩) hlt).trans (by have:=HC.out k _ HG.out 0 _ rfl; simpa using this)
    have c1:wr.cell? ⟨b,off+k*4+1,none⟩=some (.int .i64 nx):=(hbel.cell (p:=⟨b,off+k*4+1,none⟩) hlt).trans (by have:=HC.out k _ HG.out 1 _ rfl; simpa using this)
    have c2:wr.cell? ⟨b,off+k*4+2,none⟩=some (.slice ra rs.length rc):=(hbel.cell (p:=⟨b,off+k*4+2,none⟩) hlt).trans (by have:=HC.out k _ HG.out 2 _ rfl; simpa using this)
    have c3:wr.cell? ⟨b,off+k*4+3,none⟩=some (.slice ha hs.length hc):=(hbel.cell (p:=⟨b,off+k*4+3,none⟩) hlt).trans (by have:=HC.out k _ HG.out 3 _ rfl; simpa using this)
    have hone:=ql.to_queue nm nx rs hs ra ha rc hc wr hxs.1 hxs.2 ((hrow.1).inn hbel) ((hrow.2).inn hbel)
    have hgl:w.heap.size < wr.heap.size:=hf.out.own.lt
    clear he hrow hxs
    go_wp2_with (go_at_call 49; fail)
    refine hone.mono ?_
    rintro e w1 ⟨g,h,rfl,hgW,hhW,hgh,hg,hh,hb1⟩
    have hs1:=hb1.size
    have hso:=hf.out.below hb1
    have hf1:=hso.own
    have hkl2:=hso.len
    have HN:Hid (So ((((w1.setCell ⟨w.heap.size,k*4,none⟩ (.string nm)).setCell ⟨w.heap.size,k*4+1,none⟩ (.int .i64 nx)).setCell ⟨w.heap.size,k*4+2,none⟩ (.slice (some ⟨g,0,none⟩) rs.length rs.length)).setCell ⟨w.heap.size,k*4+3,none⟩ (.slice (some ⟨h,0,none⟩) hs.length hs.length)) (w.heap.size+1) w.heap.size l (ks.set k ⟨nm,nx,some ⟨g,0,none⟩,rs.length,rs,some ⟨h,0,none⟩,hs.length,hs⟩) (k+1)):=hso.more (fun j r hj hr b hb=>by have:=(hf.out.mine j r hj hr).lt hb; omega) (by omega) HG.out (by omega) (by omega) hgh hg hh
    obtain ⟨v0,g0⟩:=hf1.at (k*4) (by rw [hkl2]; omega)
    have z0:=hf1.free (k*4)
    obtain ⟨v1,g1⟩:=hf1.at (k*4+1) (by rw [hkl2]; omega)
    have z1:=hf1.free (k*4+1)
    obtain ⟨v2,g2⟩:=hf1.at (k*4+2) (by rw [hkl2]; omega)
    have z2:=hf1.free (k*4+2)
    obtain ⟨v3,g3⟩:=hf1.at (k*4+3) (by rw [hkl2]; omega)
    have z3:=hf1.free (k*4+3)
    clear hone hso hf1 c0 c1 c2 c3 hg hh hkl2
    go_wp2
    go_roundw
    case rel=>exact ⟨k+1,_,by omega,by go_num,(((((hbel.trans (hb1.mono hbs)).setCell (Nat.le_refl _) _).setCell (Nat.le_refl _) _).setCell (Nat.le_refl _) _).setCell (Nat.le_refl _) _),HN⟩
    case measure=>simp [intOf]; omega
   ·obtain rfl:k=l.length:=by omega
    go_wp2
    go_ret
    first | exact ⟨ks,rfl,hf.out,hbel⟩ | exact ⟨rfl,ks,hf.out,hbel⟩
end Go.Proofs.YtaoefccgdfcchaaGreat.qu
namespace Go.Proofs.YtaoefccgdfcchaaGreat.qu
open ChangeShapes WideShapes ChangeAt RowKit fl
def wtm (r:E):Nat:=2+5*r.rs.length+7*r.hs.length
def mk (n:Nat) (r:E):E:=⟨sm.mt n,((n:Nat):Int)+1,r.ra,r.rc,mrM.mks (n+2) r.rs.length,r.ha,r.hc,mrH.mks (n+2+5*r.rs.length) r.hs.length⟩
def mkl:Nat->List E->List E
 | _,[]=>[]
 | n,r :: t=>mk n r :: mkl (n+wtm r) t
def tot:List E->Nat
 | []=>0
 | r :: t=>wtm r+tot t
theorem tot_snoc (p:List E) (r:E):tot (p++[r])=tot p+wtm r:=by
 induction p with
 | nil=>simp [tot]
 | cons x t ih=>simp [tot,ih]; omega
theorem mkl_snoc (p:List E) (r:E):∀ n,mkl n (p++[r])=mkl n p++[mk (n+tot p) r]:=by
 induction p with
 | nil=>intro n; simp [mkl,tot]
 | cons x t ih=>intro n; simp [mkl,tot,ih,Nat.add_assoc]
theorem mkl_len (p:List E):∀ n,(mkl n p).length=p.length:=by
 induction p with
 | nil=>intro n; rfl
 | cons x t ih=>intro n; simp [mkl,ih]
def bA (r:E) (k:Nat):Prop:=fo.blk r.ra r.rs k
def bB (r:E) (k:Nat):Prop:=fo.blk r.ha r.hs k
def Apart (r s:E):Prop:=(∀ k,bA r k->¬ bA s k)/\∀ k,bB r k->¬ bB s k
structure Ls (w:World) (B g:Nat) (l:List E):Prop where
 own:fo.OwnO c 4 58 w g 0 l l.length
 bg:B <= g
 ea:∀ r ∈ l,fo.Mine flM.c 5 129 w B r.ra r.rs
 eb:∀ r ∈ l,fo.Mine flH.c 7 131 w B r.ha r.hs
 pw:l.Pairwise Apart
def lsB (g:Nat) (l:List E) (k:Nat):Prop:=k=g ∨ ∃ r ∈ l,bA r k ∨ bB r k
section
variable {w w':World} {B g:Nat} {l p q:List E} {r:E}
theorem Ls.on (h:Ls w B g l) (hb:Below w.heap.size w w'):Ls w' B g l:=⟨h.own.below hb h.own.lt,h.bg,fun r hr=>(h.ea r hr).below hb,fun r hr=>(h.eb r hr).below hb,h.pw⟩
theorem own_upd {e e':E} {i j:Nat} {v:Value} (h:fo.OwnO c 4 58 w g 0 l l.length) (he:l[i]?=some e) (hv:(c e')[j]?=some v) (ho:∀ m,m ≠ j->(c e')[m]?=(c e)[m]?):fo.OwnO c 4 58 (w.setCell ⟨g,i*4+j,none⟩ v) g 0 (l.set i e') (l.set i e').length:=by
 obtain ⟨cur,h1,h2,h3⟩:=h
 have hi:=(List.getElem?_eq_some_iff.1 he).1
 have hj:=(List.getElem?_eq_some_iff.1 hv).1
 rw [c_len] at hj
 refine ⟨_,bset h1 (i*4+j) v,by rw [Array.size_setIfInBounds,List.length_set]; exact h2,fun a f ha hf m u hu=>?_⟩
 have hm:=(List.getElem?_eq_some_iff.1 hu).1
 rw [c_len] at hm
 rw [List.length_set] at ha
 by_cases ea:a=i
 ·subst ea
  rw [List.getElem?_set_self hi] at hf
  cases hf
  by_cases em:m=j
  ·subst em
   rw [hv] at hu
   cases hu
   rw [Nat.zero_add,Array.getElem?_setIfInBounds,if_pos rfl,if_pos (by omega)]
  ·rw [Nat.zero_add,Array.getElem?_setIfInBounds,if_neg (by omega)]
   rw [ho m em] at hu
   have:=h3 a e ha he m u hu
   simpa using this
 ·rw [List.getElem?_set_ne (Ne.symm ea)] at hf
  rw [Nat.zero_add,Array.getElem?_setIfInBounds,if_neg (by omega)]
  have:=h3 a f ha hf m u hu
  simpa using this
theorem at_mid (p q:List E) (r:E):(p++r :: q)[p.length]?=some r:=by simp
theorem set_mid (p q:List E) (r r':E):(p++r :: q).set p.length r'=p++r' :: q:=by simp
theorem own_g (h:fo.OwnO c 4 58 w g 0 l l.length):∃ cur,w.heap[g]?=some (.cells cur 58 (0,0)):=by
 obtain ⟨cur,h1,_⟩:=h
 exact ⟨cur,h1⟩
theorem blk_len {α:Type} {a:Option Addr} {l l':List α} {k:Nat} (h:l'.length=l.length) (hk:fo.blk a l' k):fo.blk a l k:=by
 obtain ⟨h1,h2⟩:=hk
 exact ⟨fun e=>h1 (List.eq_nil_of_length_eq_zero (by rw [h,e]; rfl)),h2⟩
theorem pw_mid {r':E} (h:(p++r :: q).Pairwise Apart) (ha:∀ k,bA r' k->bA r k) (hb:∀ k,bB r' k->bB r k):(p++r' :: q).Pairwise Apart:=by
 rw [List.pairwise_append] at h ⊢
 obtain ⟨h1,h2,h3⟩:=h
 rw [List.pairwise_cons] at h2 ⊢
 refine ⟨h1,⟨fun s hs=>⟨fun k hk=>(h2.1 s hs).1 k (ha k hk),fun k hk=>(h2.1 s hs).2 k (hb k hk)⟩,h2.2⟩,fun s hs x hx=>?_⟩
 rcases List.mem_cons.1 hx with rfl | hx
 ·exact ⟨fun k hk hk2=>(h3 s hs r (List.mem_cons_self ..)).1 k hk (ha k hk2),fun k hk hk2=>(h3 s hs r (List.mem_cons_self ..)).2 k hk (hb k hk2)⟩
 ·exact h3 s hs x (List.mem_cons_of_mem _ hx)
theorem others (h:(p++r :: q).Pairwise Apart) {s:E} (hs:s ∈ p ∨ s ∈ q):(∀ k,bA s k->¬ bA r k)/\∀ k,bB s k->¬ bB r k:=by
 rw [List.pairwise_append,List.pairwise_cons] at h
 rcases hs with hs | hs
 ·exact h.2.2 s hs r (List.mem_cons_self ..)
 ·have:=h.2.1.1 s hs
  exact ⟨fun k h1 h2=>this.1 k h2 h1,fun k h1 h2=>this.2 k h2 h1⟩
theorem mem_mid {s r':E} (h:s ∈ p++r' :: q):s=r' ∨ s ∈ p ∨ s ∈ q:=by
 rcases List.mem_append.1 h with h | h
 ·exact .inr (.inl h)
 ·rcases List.mem_cons.1 h with h | h
  ·exact .inl h
  ·exact .inr (.inr h)
theorem in_mid {s:E} (h:s ∈ p ∨ s ∈ q):s ∈ p++r :: q:=by
 rcases h with h | h
 ·exact List.mem_append_left _ h
 ·exact List.mem_append_right _ (List.mem_cons_of_mem _ h)
theorem mid_in:r ∈ p++r :: q:=List.mem_append_right _ (List.mem_cons_self ..)
theorem Ls.cell {r':E} {j:Nat} {v:Value} (h:Ls w B g (p++r :: q)) (hv:(c r')[j]?=some v) (ho:∀ m,m ≠ j->(c r')[m]?=(c r)[m]?) (h1:r'.ra=r.ra) (h2:r'.rs=r.rs) (h3:r'.ha=r.ha) (h4:r'.hs=r.hs):Ls (w.setCell ⟨g,p.length*4+j,none⟩ v) B g (p++r' :: q):=by
 have hg:=own_g h.own
 have ht:fo.Tn w (w.setCell ⟨g,p.length*4+j,none⟩ v) (fun k=>k=g):=(fo.Tn.refl w (fun k=>k=g)).set (g:=g) rfl _ _
 have ka:∀ s:E,fo.Mine flM.c 5 129 w B s.ra s.rs->fo.Mine flM.c 5 129 (w.setCell ⟨g,p.length*4+j,none⟩ v) B s.ra s.rs:=fun s m=>m.kept ht (fun k hk e=>by subst e; exact rmk.ne_type (by decide) hg (rmk.mine_type m hk))
 have kb:∀ s:E,fo.Mine flH.c 7 131 w B s.ha s.hs->fo.Mine flH.c 7 131 (w.setCell ⟨g,p.length*4+j,none⟩ v) B s.ha s.hs:=fun s m=>m.kept ht (fun k hk e=>by subst e; exact rmk.ne_type (by decide) hg (rmk.mine_type m hk))
 refine ⟨?_,h.bg,fun s hs=>?_,fun s hs=>?_,pw_mid h.pw (fun k hk=>by unfold bA at hk ⊢; rwa [h1,h2] at hk) (fun k hk=>by unfold bB at hk ⊢; rwa [h3,h4] at hk)⟩
 ·have:=own_upd h.own (at_mid p q r) hv ho
  rwa [set_mid] at this
 ·rcases mem_mid hs with rfl | hs
  ·rw [h1,h2]; exact ka r (h.ea r mid_in)
  ·exact ka s (h.ea s (in_mid hs))
 ·rcases mem_mid hs with rfl | hs
  ·rw [h3,h4]; exact kb r (h.eb r mid_in)
  ·exact kb s (h.eb s (in_mid hs))
theorem Ls.turnA {rs':List flM.Ms} (h:Ls w B g (p++r :: q)) (ht:fo.Tn w w' (bA r)) (hm:fo.Mine flM.c 5 129 w' B r.ra rs') (hl:rs'.length=r.rs.length):Ls w' B g (p++⟨r.nm,r.nx,r.ra,r.rc,rs',r.ha,r.hc,r.hs⟩ :: q):=by
 have hg:=own_g h.own
 have mr:=h.ea r mid_in
 refine ⟨?_,h.bg,fun s hs=>?_,fun s hs=>?_,pw_mid h.pw (fun k hk=>blk_len hl hk) (fun k hk=>hk)⟩
 ·have h1:fo.OwnO c 4 58 w' g 0 (p++r :: q) (p++r :: q).length:=h.own.kept (ht.block g h.own.lt (fun hk=>rmk.ne_type (by decide) hg (rmk.mine_type mr hk)))
  obtain ⟨cur,k1,k2,k3⟩:=h1
  refine ⟨cur,k1,by simpa using k2,fun i e hi he j v hv=>?_⟩
  by_cases ei:i=p.length
  ·subst ei
   rw [at_mid] at he
   cases he
   refine k3 p.length r (by simp) (at_mid p q r) j v ?_
   rw [<- hv]
   simp [c,hl]
  ·refine k3 i e (by simpa using hi) ?_ j v hv
   have e1:=List.getElem?_set_ne (l:=p++r :: q) (a:=⟨r.nm,r.nx,r.ra,r.rc,rs',r.ha,r.hc,r.hs⟩) (Ne.symm ei)
   rw [set_mid] at e1
   rw [<- e1]
   exact he
 ·rcases mem_mid hs with rfl | hs
  ·exact hm
  ·exact (h.ea s (in_mid hs)).kept ht (fun k hk=>(others h.pw hs).1 k hk)
 ·have kb:∀ s:E,fo.Mine flH.c 7 131 w B s.ha s.hs->fo.Mine flH.c 7 131 w' B s.ha s.hs:=fun s m=>m.kept ht (fun k hk e=>rmk.ne_type (by decide) (rmk.mine_type mr e) (rmk.mine_type m hk))
  rcases mem_mid hs with rfl | hs
  ·exact kb r (h.eb r mid_in)
  ·exact kb s (h.eb s (in_mid hs))
theorem Ls.turnB {hs':List flH.Hd} (h:Ls w B g (p++r :: q)) (ht:fo.Tn w w' (bB r)) (hm:fo.Mine flH.c 7 131 w' B r.ha hs') (hl:hs'.length=r.hs.length):Ls w' B g (p++⟨r.nm,r.nx,r.ra,r.rc,r.rs,r.ha,r.hc,hs'⟩ :: q):=by
 have hg:=own_g h.own
 have mr:=h.eb r mid_in
 refine ⟨?_,h.bg,fun s hs=>?_,fun s hs=>?_,pw_mid h.pw (fun k hk=>hk) (fun k hk=>blk_len hl hk)⟩
 ·have h1:fo.OwnO c 4 58 w' g 0 (p++r :: q) (p++r :: q).length:=h.own.kept (ht.block g h.own.lt (fun hk=>rmk.ne_type (by decide) hg (rmk.mine_type mr hk)))
  obtain ⟨cur,k1,k2,k3⟩:=h1
  refine ⟨cur,k1,by simpa using k2,fun i e hi he j v hv=>?_⟩
  by_cases ei:i=p.length
  ·subst ei
   rw [at_mid] at he
   cases he
   refine k3 p.length r (by simp) (at_mid p q r) j v ?_
   rw [<- hv]
   simp [c,hl]
  ·refine k3 i e (by simpa using hi) ?_ j v hv
   have e1:=List.getElem?_set_ne (l:=p++r :: q) (a:=⟨r.nm,r.nx,r.ra,r.rc,r.rs,r.ha,r.hc,hs'⟩) (Ne.symm ei)
   rw [set_mid] at e1
   rw [<- e1]
   exact he
 ·have ka:∀ s:E,fo.Mine flM.c 5 129 w B s.ra s.rs->fo.Mine flM.c 5 129 w' B s.ra s.rs:=fun s m=>m.kept ht (fun k hk e=>rmk.ne_type (by decide) (rmk.mine_type mr e) (rmk.mine_type m hk))
  rcases mem_mid hs with rfl | hs
  ·exact ka r (h.ea r mid_in)
  ·exact ka s (h.ea s (in_mid hs))
 ·rcases mem_mid hs with rfl | hs
  ·exact hm
  ·exact (h.eb s (in_mid hs)).kept ht (fun k hk=>(others h.pw hs).2 k hk)
end
end Go.Proofs.YtaoefccgdfcchaaGreat.qu
namespace Go.Proofs.YtaoefccgdfcchaaGreat.qu
open ChangeShapes WideShapes ChangeAt RowKit fl
theorem Ls.cells {w:World} {B g:Nat} {p q:List E} {r:E} (h:Ls w B g (p++r :: q)) (n:Nat) (hn:p.length=n) (j:Nat) (v:Value) (hv:(c r)[j]?=some v):w.cell? ⟨g,n*4+j,none⟩=some v:=by
 subst hn
 obtain ⟨cur,h1,h2,h3⟩:=h.own
 simp only [World.cell?,h1]
 simpa using h3 p.length r (by simp) (at_mid p q r) j v hv
theorem Ls.lens {w:World} {B g:Nat} {p q:List E} {r:E} (h:Ls w B g (p++r :: q)) (n:Nat) (hn:p.length=n):fo.OwnO c 4 58 w g 0 (p++r :: q) (p++r :: q).length/\(p++r :: q).length=n+1+q.length:=⟨h.own,by simp; omega⟩
theorem tot_le {p q:List E}:tot p <= tot (p++q):=by
 induction p with
 | nil=>simp [tot]
 | cons x t ih=>simp [tot]; omega
theorem tot_mid {p q:List E} {r:E}:tot p+wtm r <= tot (p++r :: q):=by
 have:=tot_le (p:=p++[r]) (q:=q)
 rw [tot_snoc] at this
 simpa using this
theorem mkl_app (p q:List E):∀ n,mkl n (p++q)=mkl n p++mkl (n+tot p) q:=by
 induction p with
 | nil=>intro n; simp [mkl,tot]
 | cons x t ih=>intro n; simp [mkl,tot,ih,Nat.add_assoc]
theorem lsB_mid {g k:Nat} {p q:List E} {r:E} (h:bA r k ∨ bB r k):lsB g (p++r :: q) k:=.inr ⟨r,mid_in,h⟩
theorem mark_list {B:Nat} (l:List E) (g cap k0:Nat) (w:World) (hel:∀ r ∈ l,r.rs.length <= 1048577/\r.hs.length <= 1048577) (hsz:tot l <= 100000000000) (hl:l.length <= 1048577) (hk0:1 <= k0/\k0 <= 100000000000) (h:Ls w B g l) :
  Calls Tryz.prog 32 #[.slice (some ⟨g,0,none⟩) l.length cap,.int .i64 k0] w fun e w'=>e=.returned (.int .i64 (k0+tot l:Nat))/\fo.Tn w w' (lsB g l)/\Ls w' B g (mkl k0 l):=by
 have HL:Hid (Ls w B g l):=h
 have HEL:Hid (∀ r ∈ l,r.rs.length <= 1048577/\r.hs.length <= 1048577):=hel
 have HSZ:Hid (tot l <= 100000000000):=hsz
 clear h hel hsz
 go_enter Tryz.func32,Tryz.ntmps32
 go_wp2
 go_loopw [1,5] (fun y x wr=>∃ p q:List E,Hid (l=p++q)/\p.length <= l.length/\x=.int .i64 p.length/\y=.int .i64 (k0+tot p:Nat)/\Hid (fo.Tn w wr (lsB g l))/\Hid (Ls wr B g (mkl k0 p++q))) (fun _ x _=>l.length - (intOf x).toNat)
 case atStart=>exact ⟨[],l,rfl,Nat.zero_le _,rfl,rfl,fo.Tn.refl _ _,HL⟩
 case round =>
  obtain ⟨p,q,hpq,hpl,rfl,rfl,hbel,hf⟩:=hrel
  clear HL
  match q,hpq,hf with
  | [],hpq,hf =>
   have e:p=l:=by rw [hpq.out]; simp
   subst e
   have HF:Hid (Ls wr B g (mkl k0 p)):=by have:=hf.out; rw [List.append_nil] at this; exact this
   clear hf hpq
   go_wp2
   go_ret
   exact ⟨rfl,hbel.out,HF.out⟩
  | r :: q,hpq,hf =>
   have hmem:r ∈ l:=by rw [hpq.out]; exact mid_in
   have hx:=HEL.out r hmem
   have hlt:(p.length:Int) < (l.length:Int):=by rw [hpq.out]; simp; omega
   have HTM:Hid (tot p+wtm r <= 100000000000):=by have h1:=HSZ.out; rw [hpq.out] at h1; have h2:=tot_mid (p:=p) (q:=q) (r:=r); show _ <= _; omega
   have HW:Hid (wtm r=2+5*r.rs.length+7*r.hs.length):=rfl
   have HBA:Hid (∀ k,bA r k->lsB g l k):=fun k hk=>by rw [hpq.out]; exact lsB_mid (.inl hk)
   have HBB:Hid (∀ k,bB r k->lsB g l k):=fun k hk=>by rw [hpq.out]; exact lsB_mid (.inr hk)
   have HMK:Hid (mkl k0 (p++[r])=mkl k0 p++[mk (k0+tot p) r]):=mkl_snoc p r k0
   have HTS:Hid (tot (p++[r])=tot p+wtm r):=tot_snoc p r
   have hPl:(mkl k0 p).length=p.length:=mkl_len p k0
   obtain ⟨Q,hQ⟩:∃ Q,mkl k0 p=Q:=⟨_,rfl⟩
   rw [hQ] at hf hPl HMK
   obtain ⟨m,hm⟩:∃ m,k0+tot p=m:=⟨_,rfl⟩
   rw [hm] at HMK ⊢
   have HM:Hid (k0+tot p=m):=hm
   have hm9:m <= 300000000000/\1 <= m:=by have:=HTM.out; omega
   obtain ⟨nm,nx,ra,rc,rs,ha,hc,hs⟩:=r
   simp only at hx HW
   have HPQ:Hid (l=p++⟨nm,nx,ra,rc,rs,ha,hc,hs⟩ :: q):=hpq
   obtain ⟨o1,o2⟩:=hf.out.lens p.length hPl
   have hmt:=fun W=>sm.mark_text m W (by omega) (by omega)
   have HPL:Hid (Q.length=p.length):=hPl
   clear hpq hQ hm hmem hPl o1 o2
   go_wp2_with (go_at_call 74; fail)
   refine (hmt _).mono ?_
   rintro e w1 ⟨rfl,hb1⟩
   have HL1:Hid (Ls w1 B g (Q++⟨nm,nx,ra,rc,rs,ha,hc,hs⟩ :: q)):=hf.out.on hb1
   have HT1:Hid (fo.Tn w w1 (lsB g l)):=hbel.out.trans (fo.Tn.of _ hb1)
   have HO1:Hid (fo.OwnO c 4 58 w1 g 0 (Q++⟨nm,nx,ra,rc,rs,ha,hc,hs⟩ :: q) (Q++⟨nm,nx,ra,rc,rs,ha,hc,hs⟩ :: q).length):=HL1.out.own
   have hO2:(Q++(⟨nm,nx,ra,rc,rs,ha,hc,hs⟩:E) :: q).length=p.length+1+q.length:=(HL1.out.lens p.length HPL.out).2
   obtain ⟨v0,g0⟩:=HO1.out.at (p.length*4) (by omega)
   have z0:=HO1.out.free (p.length*4)
   obtain ⟨v1,g1⟩:=HO1.out.at (p.length*4+1) (by omega)
   have z1:=HO1.out.free (p.length*4+1)
   have HL2:Hid (Ls ((w1.setCell ⟨g,p.length*4,none⟩ (.string (sm.mt m))).setCell ⟨g,p.length*4+1,none⟩ (.int .i64 ((m:Int)+1))) B g (Q++⟨sm.mt m,((m:Int)+1),ra,rc,rs,ha,hc,hs⟩ :: q)):=by
    have h1:=((HL1.out.cell (r':=⟨sm.mt m,nx,ra,rc,rs,ha,hc,hs⟩) (j:=0) rfl (fun x hx=>by match x,hx with | 0,hx=>(first | rfl | exact absurd rfl hx) | 1,hx=>(first | rfl | exact absurd rfl hx) | 2,hx=>(first | rfl | exact absurd rfl hx) | 3,hx=>(first | rfl | exact absurd rfl hx) | x+4,_=>rfl) rfl rfl rfl rfl).cell (r':=⟨sm.mt m,((m:Int)+1),ra,rc,rs,ha,hc,hs⟩) (j:=1) rfl (fun x hx=>by match x,hx with | 0,hx=>(first | rfl | exact absurd rfl hx) | 1,hx=>(first | rfl | exact absurd rfl hx) | 2,hx=>(first | rfl | exact absurd rfl hx) | 3,hx=>(first | rfl | exact absurd rfl hx) | x+4,_=>rfl) rfl rfl rfl rfl)
    rw [HPL.out] at h1
    exact h1
   have HT2:Hid (fo.Tn w ((w1.setCell ⟨g,p.length*4,none⟩ (.string (sm.mt m))).setCell ⟨g,p.length*4+1,none⟩ (.int .i64 ((m:Int)+1))) (lsB g l)):=((HT1.out.set (g:=g) (.inl rfl) _ _).set (g:=g) (.inl rfl) _ _)
   have c2:=HL2.out.cells p.length HPL.out 2 _ rfl
   have hma:=rmk.markM (B:=B) rs ra rc (m+2) ((w1.setCell ⟨g,p.length*4,none⟩ (.string (sm.mt m))).setCell ⟨g,p.length*4+1,none⟩ (.int .i64 ((m:Int)+1))) (by omega) (by omega) (HL2.out.ea _ mid_in)
   rw [show ((m+2:Nat):Int)=(m:Int)+1+1 by omega] at hma
   obtain ⟨m3,hm3⟩:∃ m3,m+2+5*rs.length=m3:=⟨_,rfl⟩
   rw [hm3] at hma
   have hm39:m3 <= 400000000000/\1 <= m3:=by have h1:=HTM.out; have h2:=HW.out; have h3:=HM.out; omega
   have HM3:Hid (m+2+5*rs.length=m3):=hm3
   clear hmt hb1 hf hbel HL1 HT1 hm3
   obtain ⟨W2,hW2⟩:∃ W2,((w1.setCell ⟨g,p.length*4,none⟩ (.string (sm.mt m))).setCell ⟨g,p.length*4+1,none⟩ (.int .i64 ((m:Int)+1)))=W2:=⟨_,rfl⟩
   rw [hW2] at HL2 HT2 c2 hma
   go_wp2_with (go_at_call 75; fail)
   clear hW2 g0 z0 g1 z1 HO1 hO2
   refine hma.mono ?_
   rintro e w3 ⟨rfl,ht3,hm3'⟩
   have HL3:Hid (Ls w3 B g (Q++⟨sm.mt m,((m:Int)+1),ra,rc,(mrM.mks (m+2) rs.length),ha,hc,hs⟩ :: q)):=HL2.out.turnA ht3 hm3' (by rw [mrM.mks_len])
   have HT3:Hid (fo.Tn w w3 (lsB g l)):=HT2.out.trans (ht3.wide HBA.out)
   have c3:w3.cell? ⟨g,p.length*4+3,none⟩=some (.slice ha hs.length hc):=HL3.out.cells p.length HPL.out 3 _ rfl
   have hmb:=rmk.markH (B:=B) hs ha hc m3 w3 (by omega) (by omega) (HL3.out.eb _ mid_in)
   obtain ⟨m4,hm4⟩:∃ m4,m3+7*hs.length=m4:=⟨_,rfl⟩
   rw [hm4] at hmb
   have HM4:Hid (m3+7*hs.length=m4):=hm4
   clear hma HL2 HT2 c2 ht3 hm3' hm4
   go_wp2_with (go_at_call 76; fail)
   refine hmb.mono ?_
   rintro e w4 ⟨rfl,ht4,hm4'⟩
   have HL4:Hid (Ls w4 B g (Q++⟨sm.mt m,((m:Int)+1),ra,rc,(mrM.mks (m+2) rs.length),ha,hc,(mrH.mks m3 hs.length)⟩ :: q)):=HL3.out.turnB ht4 hm4' (by rw [mrH.mks_len])
   have HT4:Hid (fo.Tn w w4 (lsB g l)):=HT3.out.trans (ht4.wide HBB.out)
   have HN:Hid (Ls w4 B g (mkl k0 (p++[⟨nm,nx,ra,rc,rs,ha,hc,hs⟩])++q)):=by
    have h1:=HL4.out
    rw [<- HM3.out] at h1
    show Ls _ _ _ _
    rw [HMK.out,List.append_assoc]
    exact h1
   have HV:Hid (k0+tot (p++[⟨nm,nx,ra,rc,rs,ha,hc,hs⟩])=m4):=by have h1:=HTS.out; have h2:=HW.out; have h3:=HM.out; have h4:=HM3.out; have h5:=HM4.out; show _=_; rw [h1,h2]; omega
   clear hmb HL3 HT3 c3 ht4 hm4' HL4
   go_wp2
   go_roundw
   case rel=>exact ⟨p++[⟨nm,nx,ra,rc,rs,ha,hc,hs⟩],q,by show _=_; rw [HPQ.out]; simp,by have:=HPQ.out; rw [this]; simp,by simp,by rw [HV.out],HT4,HN⟩
   case measure=>simp [intOf]; omega
theorem held_list {B:Nat} (l:List E) (g cap k0:Nat) (w:World) (hel:∀ r ∈ l,r.rs.length <= 1048577/\r.hs.length <= 1048577) (hsz:tot l <= 100000000000) (hl:l.length <= 1048577) (hk0:1 <= k0/\k0 <= 100000000000) (h:Ls w B g (mkl k0 l)) :
  Calls Tryz.prog 35 #[.slice (some ⟨g,0,none⟩) l.length cap,.int .i64 k0] w fun e w'=>e=.returned (.int .i64 (k0+tot l:Nat))/\Below w.heap.size w w':=by
 have HL:Hid (Ls w B g (mkl k0 l)):=h
 have HEL:Hid (∀ r ∈ l,r.rs.length <= 1048577/\r.hs.length <= 1048577):=hel
 have HSZ:Hid (tot l <= 100000000000):=hsz
 have hgl:=h.own.lt
 clear h hel hsz
 go_enter Tryz.func35,Tryz.ntmps35
 go_wp2
 go_loopw [1,5] (fun y x wr=>∃ p q:List E,Hid (l=p++q)/\p.length <= l.length/\x=.int .i64 p.length/\y=.int .i64 (k0+tot p:Nat)/\Hid (Below w.heap.size w wr)) (fun _ x _=>l.length - (intOf x).toNat)
 case atStart=>exact ⟨[],l,rfl,Nat.zero_le _,rfl,rfl,Below.refl _ _⟩
 case round =>
  obtain ⟨p,q,hpq,hpl,rfl,rfl,hbel⟩:=hrel
  match q,hpq with
  | [],hpq =>
   have e:p=l:=by rw [hpq.out]; simp
   subst e
   clear hpq
   go_wp2
   go_ret
   exact ⟨rfl,hbel.out⟩
  | r :: q,hpq =>
   have hmem:r ∈ l:=by rw [hpq.out]; exact mid_in
   have hx:=HEL.out r hmem
   have hlt:(p.length:Int) < (l.length:Int):=by rw [hpq.out]; simp; omega
   have HTM:Hid (tot p+wtm r <= 100000000000):=by have h1:=HSZ.out; rw [hpq.out] at h1; have h2:=tot_mid (p:=p) (q:=q) (r:=r); show _ <= _; omega
   have HW:Hid (wtm r=2+5*r.rs.length+7*r.hs.length):=rfl
   have HTS:Hid (tot (p++[r])=tot p+wtm r):=tot_snoc p r
   have hPl:(mkl k0 p).length=p.length:=mkl_len p k0
   have hL0:=HL.out.on hbel.out
   rw [hpq.out,mkl_app] at hL0
   obtain ⟨m,hm⟩:∃ m,k0+tot p=m:=⟨_,rfl⟩
   rw [hm] at hL0 ⊢
   have HLR:Hid (Ls wr B g (mkl k0 p++mk m r :: mkl (m+wtm r) q)):=hL0
   have HM:Hid (k0+tot p=m):=hm
   have hm9:m <= 300000000000/\1 <= m:=by have:=HTM.out; omega
   obtain ⟨nm,nx,ra,rc,rs,ha,hc,hs⟩:=r
   simp only at hx HW
   have HPQ:Hid (l=p++⟨nm,nx,ra,rc,rs,ha,hc,hs⟩ :: q):=hpq
   have hmt:=fun W=>sm.mark_text m W (by omega) (by omega)
   have cs:=HLR.out.cells p.length hPl
   have HCS:Hid (∀ W,Below wr.heap.size wr W->W.cell? ⟨g,p.length*4,none⟩=some (.string (sm.mt m))/\W.cell? ⟨g,p.length*4+1,none⟩=some (.int .i64 ((m:Int)+1))/\W.cell? ⟨g,p.length*4+2,none⟩=some (.slice ra rs.length rc)/\W.cell? ⟨g,p.length*4+3,none⟩=some (.slice ha hs.length hc)):=fun W hb=>by
    have hg:g < wr.heap.size:=HLR.out.own.lt
    have e1:=cs 2 _ rfl
    have e2:=cs 3 _ rfl
    simp only [mk,mrM.mks_len,mrH.mks_len] at e1 e2
    exact ⟨(hb.cell (p:=⟨g,p.length*4,none⟩) hg).trans (cs 0 _ rfl),(hb.cell (p:=⟨g,p.length*4+1,none⟩) hg).trans (cs 1 _ rfl),(hb.cell (p:=⟨g,p.length*4+2,none⟩) hg).trans e1,(hb.cell (p:=⟨g,p.length*4+3,none⟩) hg).trans e2⟩
   have HMA:Hid (fo.Mine flM.c 5 129 wr B ra (mrM.mks (m+2) rs.length)):=HLR.out.ea _ mid_in
   have HMB:Hid (fo.Mine flH.c 7 131 wr B ha (mrH.mks (m+2+5*rs.length) hs.length)):=HLR.out.eb _ mid_in
   obtain ⟨c0,c1,c2,c3⟩:=HCS.out wr (Below.refl _ _)
   clear hpq hm hmem hPl hL0 cs HLR
   go_wp2
   go_region_with (go_at_call 74; refine (hmt _).mono ?_; rintro e w1 ⟨rfl,hb1⟩; have hb1':Below wr.heap.size wr w1:=(Below.refl _ _).drew.trans hb1; obtain ⟨d0,d1,d2,d3⟩:=HCS.out w1 hb1')
   all_goals
    clear c0 c1 c2 c3 hmt
    have hma:=rmk.heldM (B:=B) rs.length ra rc (m+2) w1 (by omega) (by omega) (HMA.out.below hb1')
    rw [show ((m+2:Nat):Int)=(m:Int)+1+1 by omega] at hma
    obtain ⟨m3,hm3⟩:∃ m3,m+2+5*rs.length=m3:=⟨_,rfl⟩
    rw [hm3] at hma HMB
    have hm39:m3 <= 400000000000/\1 <= m3:=by have h1:=HTM.out; have h2:=HW.out; have h3:=HM.out; omega
    have HM3:Hid (m+2+5*rs.length=m3):=hm3
    clear hm3
    go_wp2_with (go_at_call 81; fail)
    refine hma.mono ?_
    rintro e w3 ⟨rfl,hb3⟩
    have hb3':Below wr.heap.size wr w3:=hb1'.trans (hb3.mono hb1'.size)
    have c3:w3.cell? ⟨g,p.length*4+3,none⟩=some (.slice ha hs.length hc):=(HCS.out w3 hb3').2.2.2
    have hmb:=rmk.heldH (B:=B) hs.length ha hc m3 w3 (by omega) (by omega) (HMB.out.below hb3')
    obtain ⟨m4,hm4⟩:∃ m4,m3+7*hs.length=m4:=⟨_,rfl⟩
    rw [hm4] at hmb
    have HM4:Hid (m3+7*hs.length=m4):=hm4
    clear hma hm4 d0 d1 d2 d3
    have hn3:¬ (m3:Int) < 0:=by omega
    go_wp2_with (go_at_call 82; fail)
    refine hmb.mono ?_
    rintro e w4 ⟨rfl,hb4⟩
    have HN:Hid (Below w.heap.size w w4):=hbel.out.trans ((hb3'.trans (hb4.mono hb3'.size)).mono hbel.out.size)
    have HV:Hid (k0+tot (p++[⟨nm,nx,ra,rc,rs,ha,hc,hs⟩])=m4):=by have h1:=HTS.out; have h2:=HW.out; have h3:=HM.out; have h4:=HM3.out; have h5:=HM4.out; show _=_; rw [h1,h2]; omega
    have hn4:¬ (m4:Int) < 0:=by omega
    clear hmb c3
    go_wp2
    go_roundw
    case rel=>exact ⟨p++[⟨nm,nx,ra,rc,rs,ha,hc,hs⟩],q,by show _=_; rw [HPQ.out]; simp,by have:=HPQ.out; rw [this]; simp,by simp,by rw [HV.out],HN⟩
    case measure=>simp [intOf]; omega
end Go.Proofs.YtaoefccgdfcchaaGreat.qu
