/- SuMarks, SuMarkW, RegionGhost, DoneKit, CloneLaid. -/
import Derived.Test.YtaoefccgdfcchaaGreatKq07
import Derived.Test.YtaoefccgdfcchaaGreatKq09
import Derived.Test.YtaoefccgdfcchaaGreatKq04
import Derived.Shelf.LaysM
import Derived.Shelf.Strconv.Clone
set_option maxRecDepth 100000
set_option maxHeartbeats 8000000
set_option linter.unusedVariables false
namespace Go.Proofs.YtaoefccgdfcchaaGreat.su
open ChangeShapes WideShapes ChangeAt RowKit fl
def wtm (r:E):Nat:=3+3*r.rs.length+2*r.hs.length
def mk (n:Nat) (r:E):E:=⟨sm.mt n,((n:Nat):Int)+1,((n:Nat):Int)+1+1,r.ra,r.rc,mrY.mks (n+3) r.rs.length,r.ha,r.hc,mrK.mks (n+3+3*r.rs.length) r.hs.length⟩
def mkl:Nat->List E->List E
 | _,[]=>[]
 | n,r :: t=>mk n r :: mkl (n+wtm r) t
def tot:List E->Nat
 | []=>0
 | r :: t=>wtm r+tot t
theorem tot_snoc (p:List E) (r:E):tot (p++[r])=tot p+wtm r:=by
 induction p with
 | nil=>simp [tot]
 | cons x t ih=>simp [tot,ih]; omega
theorem mkl_snoc (p:List E) (r:E):∀ n,mkl n (p++[r])=mkl n p++[mk (n+tot p) r]:=by
 induction p with
 | nil=>intro n; simp [mkl,tot]
 | cons x t ih=>intro n; simp [mkl,tot,ih,Nat.add_assoc]
theorem mkl_len (p:List E):∀ n,(mkl n p).length=p.length:=by
 induction p with
 | nil=>intro n; rfl
 | cons x t ih=>intro n; simp [mkl,ih]
def bA (r:E) (k:Nat):Prop:=fo.blk r.ra r.rs k
def bB (r:E) (k:Nat):Prop:=fo.blk r.ha r.hs k
def Apart (r s:E):Prop:=(∀ k,bA r k->¬ bA s k)/\∀ k,bB r k->¬ bB s k
structure Ls (w:World) (B g:Nat) (l:List E):Prop where
 own:fo.OwnO c 5 54 w g 0 l l.length
 bg:B <= g
 ea:∀ r ∈ l,fo.Mine flY.c 3 134 w B r.ra r.rs
 eb:∀ r ∈ l,fo.Mine flK.c 2 136 w B r.ha r.hs
 pw:l.Pairwise Apart
def lsB (g:Nat) (l:List E) (k:Nat):Prop:=k=g ∨ ∃ r ∈ l,bA r k ∨ bB r k
section
variable {w w':World} {B g:Nat} {l p q:List E} {r:E}
theorem Ls.on (h:Ls w B g l) (hb:Below w.heap.size w w'):Ls w' B g l:=⟨h.own.below hb h.own.lt,h.bg,fun r hr=>(h.ea r hr).below hb,fun r hr=>(h.eb r hr).below hb,h.pw⟩
theorem own_upd {e e':E} {i j:Nat} {v:Value} (h:fo.OwnO c 5 54 w g 0 l l.length) (he:l[i]?=some e) (hv:(c e')[j]?=some v) (ho:∀ m,m ≠ j->(c e')[m]?=(c e)[m]?):fo.OwnO c 5 54 (w.setCell ⟨g,i*5+j,none⟩ v) g 0 (l.set i e') (l.set i e').length:=by
 obtain ⟨cur,h1,h2,h3⟩:=h
 have hi:=(List.getElem?_eq_some_iff.1 he).1
 have hj:=(List.getElem?_eq_some_iff.1 hv).1
 rw [c_len] at hj
 refine ⟨_,bset h1 (i*5+j) v,by rw [Array.size_setIfInBounds,List.length_set]; exact h2,fun a f ha hf m u hu=>?_⟩
 have hm:=(List.getElem?_eq_some_iff.1 hu).1
 rw [c_len] at hm
 rw [List.length_set] at ha
 by_cases ea:a=i
 ·subst ea
  rw [List.getElem?_set_self hi] at hf
  cases hf
  by_cases em:m=j
  ·subst em
   rw [hv] at hu
   cases hu
   rw [Nat.zero_add,Array.getElem?_setIfInBounds,if_pos rfl,if_pos (by omega)]
  ·rw [Nat.zero_add,Array.getElem?_setIfInBounds,if_neg (by omega)]
   rw [ho m em] at hu
   have:=h3 a e ha he m u hu
   simpa using this
 ·rw [List.getElem?_set_ne (Ne.symm ea)] at hf
  rw [Nat.zero_add,Array.getElem?_setIfInBounds,if_neg (by omega)]
  have:=h3 a f ha hf m u hu
  simpa using this
theorem at_mid (p q:List E) (r:E):(p++r :: q)[p.length]?=some r:=by simp
theorem set_mid (p q:List E) (r r':E):(p++r :: q).set p.length r'=p++r' :: q:=by simp
theorem own_g (h:fo.OwnO c 5 54 w g 0 l l.length):∃ cur,w.heap[g]?=some (.cells cur 54 (0,0)):=by
 obtain ⟨cur,h1,_⟩:=h
 exact ⟨cur,h1⟩
theorem blk_len {α:Type} {a:Option Addr} {l l':List α} {k:Nat} (h:l'.length=l.length) (hk:fo.blk a l' k):fo.blk a l k:=by
 obtain ⟨h1,h2⟩:=hk
 exact ⟨fun e=>h1 (List.eq_nil_of_length_eq_zero (by rw [h,e]; rfl)),h2⟩
theorem pw_mid {r':E} (h:(p++r :: q).Pairwise Apart) (ha:∀ k,bA r' k->bA r k) (hb:∀ k,bB r' k->bB r k):(p++r' :: q).Pairwise Apart:=by
 rw [List.pairwise_append] at h ⊢
 obtain ⟨h1,h2,h3⟩:=h
 rw [List.pairwise_cons] at h2 ⊢
 refine ⟨h1,⟨fun s hs=>⟨fun k hk=>(h2.1 s hs).1 k (ha k hk),fun k hk=>(h2.1 s hs).2 k (hb k hk)⟩,h2.2⟩,fun s hs x hx=>?_⟩
 rcases List.mem_cons.1 hx with rfl | hx
 ·exact ⟨fun k hk hk2=>(h3 s hs r (List.mem_cons_self ..)).1 k hk (ha k hk2),fun k hk hk2=>(h3 s hs r (List.mem_cons_self ..)).2 k hk (hb k hk2)⟩
 ·exact h3 s hs x (List.mem_cons_of_mem _ hx)
theorem others (h:(p++r :: q).Pairwise Apart) {s:E} (hs:s ∈ p ∨ s ∈ q):(∀ k,bA s k->¬ bA r k)/\∀ k,bB s k->¬ bB r k:=by
 rw [List.pairwise_append,List.pairwise_cons] at h
 rcases hs with hs | hs
 ·exact h.2.2 s hs r (List.mem_cons_self ..)
 ·have:=h.2.1.1 s hs
  exact ⟨fun k h1 h2=>this.1 k h2 h1,fun k h1 h2=>this.2 k h2 h1⟩
theorem mem_mid {s r':E} (h:s ∈ p++r' :: q):s=r' ∨ s ∈ p ∨ s ∈ q:=by
 rcases List.mem_append.1 h with h | h
 ·exact .inr (.inl h)
 ·rcases List.mem_cons.1 h with h | h
  ·exact .inl h
  ·exact .inr (.inr h)
theorem in_mid {s:E} (h:s ∈ p ∨ s ∈ q):s ∈ p++r :: q:=by
 rcases h with h | h
 ·exact List.mem_append_left _ h
 ·exact List.mem_append_right _ (List.mem_cons_of_mem _ h)
theorem mid_in:r ∈ p++r :: q:=List.mem_append_right _ (List.mem_cons_self ..)
theorem Ls.cell {r':E} {j:Nat} {v:Value} (h:Ls w B g (p++r :: q)) (hv:(c r')[j]?=some v) (ho:∀ m,m ≠ j->(c r')[m]?=(c r)[m]?) (h1:r'.ra=r.ra) (h2:r'.rs=r.rs) (h3:r'.ha=r.ha) (h4:r'.hs=r.hs):Ls (w.setCell ⟨g,p.length*5+j,none⟩ v) B g (p++r' :: q):=by
 have hg:=own_g h.own
 have ht:fo.Tn w (w.setCell ⟨g,p.length*5+j,none⟩ v) (fun k=>k=g):=(fo.Tn.refl w (fun k=>k=g)).set (g:=g) rfl _ _
 have ka:∀ s:E,fo.Mine flY.c 3 134 w B s.ra s.rs->fo.Mine flY.c 3 134 (w.setCell ⟨g,p.length*5+j,none⟩ v) B s.ra s.rs:=fun s m=>m.kept ht (fun k hk e=>by subst e; exact rmk.ne_type (by decide) hg (rmk.mine_type m hk))
 have kb:∀ s:E,fo.Mine flK.c 2 136 w B s.ha s.hs->fo.Mine flK.c 2 136 (w.setCell ⟨g,p.length*5+j,none⟩ v) B s.ha s.hs:=fun s m=>m.kept ht (fun k hk e=>by subst e; exact rmk.ne_type (by decide) hg (rmk.mine_type m hk))
 refine ⟨?_,h.bg,fun s hs=>?_,fun s hs=>?_,pw_mid h.pw (fun k hk=>by unfold bA at hk ⊢; rwa [h1,h2] at hk) (fun k hk=>by unfold bB at hk ⊢; rwa [h3,h4] at hk)⟩
 ·have:=own_upd h.own (at_mid p q r) hv ho
  rwa [set_mid] at this
 ·rcases mem_mid hs with rfl | hs
  ·rw [h1,h2]; exact ka r (h.ea r mid_in)
  ·exact ka s (h.ea s (in_mid hs))
 ·rcases mem_mid hs with rfl | hs
  ·rw [h3,h4]; exact kb r (h.eb r mid_in)
  ·exact kb s (h.eb s (in_mid hs))
theorem Ls.turnA {rs':List flY.En} (h:Ls w B g (p++r :: q)) (ht:fo.Tn w w' (bA r)) (hm:fo.Mine flY.c 3 134 w' B r.ra rs') (hl:rs'.length=r.rs.length):Ls w' B g (p++⟨r.nm,r.lo,r.nx,r.ra,r.rc,rs',r.ha,r.hc,r.hs⟩ :: q):=by
 have hg:=own_g h.own
 have mr:=h.ea r mid_in
 refine ⟨?_,h.bg,fun s hs=>?_,fun s hs=>?_,pw_mid h.pw (fun k hk=>blk_len hl hk) (fun k hk=>hk)⟩
 ·have h1:fo.OwnO c 5 54 w' g 0 (p++r :: q) (p++r :: q).length:=h.own.kept (ht.block g h.own.lt (fun hk=>rmk.ne_type (by decide) hg (rmk.mine_type mr hk)))
  obtain ⟨cur,k1,k2,k3⟩:=h1
  refine ⟨cur,k1,by simpa using k2,fun i e hi he j v hv=>?_⟩
  by_cases ei:i=p.length
  ·subst ei
   rw [at_mid] at he
   cases he
   refine k3 p.length r (by simp) (at_mid p q r) j v ?_
   rw [<- hv]
   simp [c,hl]
  ·refine k3 i e (by simpa using hi) ?_ j v hv
   have e1:=List.getElem?_set_ne (l:=p++r :: q) (a:=⟨r.nm,r.lo,r.nx,r.ra,r.rc,rs',r.ha,r.hc,r.hs⟩) (Ne.symm ei)
   rw [set_mid] at e1
   rw [<- e1]
   exact he
 ·rcases mem_mid hs with rfl | hs
  ·exact hm
  ·exact (h.ea s (in_mid hs)).kept ht (fun k hk=>(others h.pw hs).1 k hk)
 ·have kb:∀ s:E,fo.Mine flK.c 2 136 w B s.ha s.hs->fo.Mine flK.c 2 136 w' B s.ha s.hs:=fun s m=>m.kept ht (fun k hk e=>rmk.ne_type (by decide) (rmk.mine_type mr e) (rmk.mine_type m hk))
  rcases mem_mid hs with rfl | hs
  ·exact kb r (h.eb r mid_in)
  ·exact kb s (h.eb s (in_mid hs))
theorem Ls.turnB {hs':List rr.Ex} (h:Ls w B g (p++r :: q)) (ht:fo.Tn w w' (bB r)) (hm:fo.Mine flK.c 2 136 w' B r.ha hs') (hl:hs'.length=r.hs.length):Ls w' B g (p++⟨r.nm,r.lo,r.nx,r.ra,r.rc,r.rs,r.ha,r.hc,hs'⟩ :: q):=by
 have hg:=own_g h.own
 have mr:=h.eb r mid_in
 refine ⟨?_,h.bg,fun s hs=>?_,fun s hs=>?_,pw_mid h.pw (fun k hk=>hk) (fun k hk=>blk_len hl hk)⟩
 ·have h1:fo.OwnO c 5 54 w' g 0 (p++r :: q) (p++r :: q).length:=h.own.kept (ht.block g h.own.lt (fun hk=>rmk.ne_type (by decide) hg (rmk.mine_type mr hk)))
  obtain ⟨cur,k1,k2,k3⟩:=h1
  refine ⟨cur,k1,by simpa using k2,fun i e hi he j v hv=>?_⟩
  by_cases ei:i=p.length
  ·subst ei
   rw [at_mid] at he
   cases he
   refine k3 p.length r (by simp) (at_mid p q r) j v ?_
   rw [<- hv]
   simp [c,hl]
  ·refine k3 i e (by simpa using hi) ?_ j v hv
   have e1:=List.getElem?_set_ne (l:=p++r :: q) (a:=⟨r.nm,r.lo,r.nx,r.ra,r.rc,r.rs,r.ha,r.hc,hs'⟩) (Ne.symm ei)
   rw [set_mid] at e1
   rw [<- e1]
   exact he
 ·have ka:∀ s:E,fo.Mine flY.c 3 134 w B s.ra s.rs->fo.Mine flY.c 3 134 w' B s.ra s.rs:=fun s m=>m.kept ht (fun k hk e=>rmk.ne_type (by decide) (rmk.mine_type mr e) (rmk.mine_type m hk))
  rcases mem_mid hs with rfl | hs
  ·exact ka r (h.ea r mid_in)
  ·exact ka s (h.ea s (in_mid hs))
 ·rcases mem_mid hs with rfl | hs
  ·exact hm
  ·exact (h.eb s (in_mid hs)).kept ht (fun k hk=>(others h.pw hs).2 k hk)
end
end Go.Proofs.YtaoefccgdfcchaaGreat.su
namespace Go.Proofs.YtaoefccgdfcchaaGreat.su
open ChangeShapes WideShapes ChangeAt RowKit fl
theorem Ls.cells {w:World} {B g:Nat} {p q:List E} {r:E} (h:Ls w B g (p++r :: q)) (n:Nat) (hn:p.length=n) (j:Nat) (v:Value) (hv:(c r)[j]?=some v):w.cell? ⟨g,n*5+j,none⟩=some v:=by
 subst hn
 obtain ⟨cur,h1,h2,h3⟩:=h.own
 simp only [World.cell?,h1]
 simpa using h3 p.length r (by simp) (at_mid p q r) j v hv
theorem Ls.lens {w:World} {B g:Nat} {p q:List E} {r:E} (h:Ls w B g (p++r :: q)) (n:Nat) (hn:p.length=n):fo.OwnO c 5 54 w g 0 (p++r :: q) (p++r :: q).length/\(p++r :: q).length=n+1+q.length:=⟨h.own,by simp; omega⟩
theorem tot_le {p q:List E}:tot p <= tot (p++q):=by
 induction p with
 | nil=>simp [tot]
 | cons x t ih=>simp [tot]; omega
theorem tot_mid {p q:List E} {r:E}:tot p+wtm r <= tot (p++r :: q):=by
 have:=tot_le (p:=p++[r]) (q:=q)
 rw [tot_snoc] at this
 simpa using this
theorem mkl_app (p q:List E):∀ n,mkl n (p++q)=mkl n p++mkl (n+tot p) q:=by
 induction p with
 | nil=>intro n; simp [mkl,tot]
 | cons x t ih=>intro n; simp [mkl,tot,ih,Nat.add_assoc]
theorem lsB_mid {g k:Nat} {p q:List E} {r:E} (h:bA r k ∨ bB r k):lsB g (p++r :: q) k:=.inr ⟨r,mid_in,h⟩
theorem mark_list {B:Nat} (l:List E) (g cap k0:Nat) (w:World) (hel:∀ r ∈ l,r.rs.length <= 1048577/\r.hs.length <= 1048577) (hsz:tot l <= 100000000000) (hl:l.length <= 1048577) (hk0:1 <= k0/\k0 <= 100000000000) (h:Ls w B g l) :
  Calls Tryz.prog 33 #[.slice (some ⟨g,0,none⟩) l.length cap,.int .i64 k0] w fun e w'=>e=.returned (.int .i64 (k0+tot l:Nat))/\fo.Tn w w' (lsB g l)/\Ls w' B g (mkl k0 l):=by
 have HL:Hid (Ls w B g l):=h
 have HEL:Hid (∀ r ∈ l,r.rs.length <= 1048577/\r.hs.length <= 1048577):=hel
 have HSZ:Hid (tot l <= 100000000000):=hsz
 clear h hel hsz
 go_enter Tryz.func33,Tryz.ntmps33
 go_wp2
 go_loopw [1,5] (fun y x wr=>∃ p q:List E,Hid (l=p++q)/\p.length <= l.length/\x=.int .i64 p.length/\y=.int .i64 (k0+tot p:Nat)/\Hid (fo.Tn w wr (lsB g l))/\Hid (Ls wr B g (mkl k0 p++q))) (fun _ x _=>l.length - (intOf x).toNat)
 case atStart=>exact ⟨[],l,rfl,Nat.zero_le _,rfl,rfl,fo.Tn.refl _ _,HL⟩
 case round =>
  obtain ⟨p,q,hpq,hpl,rfl,rfl,hbel,hf⟩:=hrel
  clear HL
  match q,hpq,hf with
  | [],hpq,hf =>
   have e:p=l:=by rw [hpq.out]; simp
   subst e
   have HF:Hid (Ls wr B g (mkl k0 p)):=by have:=hf.out; rw [List.append_nil] at this; exact this
   clear hf hpq
   go_wp2
   go_ret
   exact ⟨rfl,hbel.out,HF.out⟩
  | r :: q,hpq,hf =>
   have hmem:r ∈ l:=by rw [hpq.out]; exact mid_in
   have hx:=HEL.out r hmem
   have hlt:(p.length:Int) < (l.length:Int):=by rw [hpq.out]; simp; omega
   have HTM:Hid (tot p+wtm r <= 100000000000):=by have h1:=HSZ.out; rw [hpq.out] at h1; have h2:=tot_mid (p:=p) (q:=q) (r:=r); show _ <= _; omega
   have HW:Hid (wtm r=3+3*r.rs.length+2*r.hs.length):=rfl
   have HBA:Hid (∀ k,bA r k->lsB g l k):=fun k hk=>by rw [hpq.out]; exact lsB_mid (.inl hk)
   have HBB:Hid (∀ k,bB r k->lsB g l k):=fun k hk=>by rw [hpq.out]; exact lsB_mid (.inr hk)
   have HMK:Hid (mkl k0 (p++[r])=mkl k0 p++[mk (k0+tot p) r]):=mkl_snoc p r k0
   have HTS:Hid (tot (p++[r])=tot p+wtm r):=tot_snoc p r
   have hPl:(mkl k0 p).length=p.length:=mkl_len p k0
   obtain ⟨Q,hQ⟩:∃ Q,mkl k0 p=Q:=⟨_,rfl⟩
   rw [hQ] at hf hPl HMK
   obtain ⟨m,hm⟩:∃ m,k0+tot p=m:=⟨_,rfl⟩
   rw [hm] at HMK ⊢
   have HM:Hid (k0+tot p=m):=hm
   have hm9:m <= 300000000000/\1 <= m:=by have:=HTM.out; omega
   obtain ⟨nm,lo,nx,ra,rc,rs,ha,hc,hs⟩:=r
   simp only at hx HW
   have HPQ:Hid (l=p++⟨nm,lo,nx,ra,rc,rs,ha,hc,hs⟩ :: q):=hpq
   obtain ⟨o1,o2⟩:=hf.out.lens p.length hPl
   have hmt:=fun W=>sm.mark_text m W (by omega) (by omega)
   have HPL:Hid (Q.length=p.length):=hPl
   clear hpq hQ hm hmem hPl o1 o2
   go_wp2_with (go_at_call 74; fail)
   refine (hmt _).mono ?_
   rintro e w1 ⟨rfl,hb1⟩
   have HL1:Hid (Ls w1 B g (Q++⟨nm,lo,nx,ra,rc,rs,ha,hc,hs⟩ :: q)):=hf.out.on hb1
   have HT1:Hid (fo.Tn w w1 (lsB g l)):=hbel.out.trans (fo.Tn.of _ hb1)
   have HO1:Hid (fo.OwnO c 5 54 w1 g 0 (Q++⟨nm,lo,nx,ra,rc,rs,ha,hc,hs⟩ :: q) (Q++⟨nm,lo,nx,ra,rc,rs,ha,hc,hs⟩ :: q).length):=HL1.out.own
   have hO2:(Q++(⟨nm,lo,nx,ra,rc,rs,ha,hc,hs⟩:E) :: q).length=p.length+1+q.length:=(HL1.out.lens p.length HPL.out).2
   obtain ⟨v0,g0⟩:=HO1.out.at (p.length*5) (by omega)
   have z0:=HO1.out.free (p.length*5)
   obtain ⟨v1,g1⟩:=HO1.out.at (p.length*5+1) (by omega)
   have z1:=HO1.out.free (p.length*5+1)
   obtain ⟨v2,g2⟩:=HO1.out.at (p.length*5+2) (by omega)
   have z2:=HO1.out.free (p.length*5+2)
   have HL2:Hid (Ls (((w1.setCell ⟨g,p.length*5,none⟩ (.string (sm.mt m))).setCell ⟨g,p.length*5+1,none⟩ (.int .i64 ((m:Int)+1))).setCell ⟨g,p.length*5+2,none⟩ (.int .i64 ((m:Int)+1+1))) B g (Q++⟨sm.mt m,((m:Int)+1),((m:Int)+1+1),ra,rc,rs,ha,hc,hs⟩ :: q)):=by
    have h1:=(((HL1.out.cell (r':=⟨sm.mt m,lo,nx,ra,rc,rs,ha,hc,hs⟩) (j:=0) rfl (fun x hx=>by match x,hx with | 0,hx=>(first | rfl | exact absurd rfl hx) | 1,hx=>(first | rfl | exact absurd rfl hx) | 2,hx=>(first | rfl | exact absurd rfl hx) | 3,hx=>(first | rfl | exact absurd rfl hx) | 4,hx=>(first | rfl | exact absurd rfl hx) | x+5,_=>rfl) rfl rfl rfl rfl).cell (r':=⟨sm.mt m,((m:Int)+1),nx,ra,rc,rs,ha,hc,hs⟩) (j:=1) rfl (fun x hx=>by match x,hx with | 0,hx=>(first | rfl | exact absurd rfl hx) | 1,hx=>(first | rfl | exact absurd rfl hx) | 2,hx=>(first | rfl | exact absurd rfl hx) | 3,hx=>(first | rfl | exact absurd rfl hx) | 4,hx=>(first | rfl | exact absurd rfl hx) | x+5,_=>rfl) rfl rfl rfl rfl).cell (r':=⟨sm.mt m,((m:Int)+1),((m:Int)+1+1),ra,rc,rs,ha,hc,hs⟩) (j:=2) rfl (fun x hx=>by match x,hx with | 0,hx=>(first | rfl | exact absurd rfl hx) | 1,hx=>(first | rfl | exact absurd rfl hx) | 2,hx=>(first | rfl | exact absurd rfl hx) | 3,hx=>(first | rfl | exact absurd rfl hx) | 4,hx=>(first | rfl | exact absurd rfl hx) | x+5,_=>rfl) rfl rfl rfl rfl)
    rw [HPL.out] at h1
    exact h1
   have HT2:Hid (fo.Tn w (((w1.setCell ⟨g,p.length*5,none⟩ (.string (sm.mt m))).setCell ⟨g,p.length*5+1,none⟩ (.int .i64 ((m:Int)+1))).setCell ⟨g,p.length*5+2,none⟩ (.int .i64 ((m:Int)+1+1))) (lsB g l)):=(((HT1.out.set (g:=g) (.inl rfl) _ _).set (g:=g) (.inl rfl) _ _).set (g:=g) (.inl rfl) _ _)
   have c2:=HL2.out.cells p.length HPL.out 3 _ rfl
   have hma:=rmk.markY (B:=B) rs ra rc (m+3) (((w1.setCell ⟨g,p.length*5,none⟩ (.string (sm.mt m))).setCell ⟨g,p.length*5+1,none⟩ (.int .i64 ((m:Int)+1))).setCell ⟨g,p.length*5+2,none⟩ (.int .i64 ((m:Int)+1+1))) (by omega) (by omega) (HL2.out.ea _ mid_in)
   rw [show ((m+3:Nat):Int)=(m:Int)+1+1+1 by omega] at hma
   obtain ⟨m3,hm3⟩:∃ m3,m+3+3*rs.length=m3:=⟨_,rfl⟩
   rw [hm3] at hma
   have hm39:m3 <= 400000000000/\1 <= m3:=by have h1:=HTM.out; have h2:=HW.out; have h3:=HM.out; omega
   have HM3:Hid (m+3+3*rs.length=m3):=hm3
   clear hmt hb1 hf hbel HL1 HT1 hm3
   obtain ⟨W2,hW2⟩:∃ W2,(((w1.setCell ⟨g,p.length*5,none⟩ (.string (sm.mt m))).setCell ⟨g,p.length*5+1,none⟩ (.int .i64 ((m:Int)+1))).setCell ⟨g,p.length*5+2,none⟩ (.int .i64 ((m:Int)+1+1)))=W2:=⟨_,rfl⟩
   rw [hW2] at HL2 HT2 c2 hma
   go_wp2_with (go_at_call 77; fail)
   clear hW2 g0 z0 g1 z1 g2 z2 HO1 hO2
   refine hma.mono ?_
   rintro e w3 ⟨rfl,ht3,hm3'⟩
   have HL3:Hid (Ls w3 B g (Q++⟨sm.mt m,((m:Int)+1),((m:Int)+1+1),ra,rc,(mrY.mks (m+3) rs.length),ha,hc,hs⟩ :: q)):=HL2.out.turnA ht3 hm3' (by rw [mrY.mks_len])
   have HT3:Hid (fo.Tn w w3 (lsB g l)):=HT2.out.trans (ht3.wide HBA.out)
   have c3:w3.cell? ⟨g,p.length*5+4,none⟩=some (.slice ha hs.length hc):=HL3.out.cells p.length HPL.out 4 _ rfl
   have hmb:=rmk.markK (B:=B) hs ha hc m3 w3 (by omega) (by omega) (HL3.out.eb _ mid_in)
   obtain ⟨m4,hm4⟩:∃ m4,m3+2*hs.length=m4:=⟨_,rfl⟩
   rw [hm4] at hmb
   have HM4:Hid (m3+2*hs.length=m4):=hm4
   clear hma HL2 HT2 c2 ht3 hm3' hm4
   go_wp2_with (go_at_call 78; fail)
   refine hmb.mono ?_
   rintro e w4 ⟨rfl,ht4,hm4'⟩
   have HL4:Hid (Ls w4 B g (Q++⟨sm.mt m,((m:Int)+1),((m:Int)+1+1),ra,rc,(mrY.mks (m+3) rs.length),ha,hc,(mrK.mks m3 hs.length)⟩ :: q)):=HL3.out.turnB ht4 hm4' (by rw [mrK.mks_len])
   have HT4:Hid (fo.Tn w w4 (lsB g l)):=HT3.out.trans (ht4.wide HBB.out)
   have HN:Hid (Ls w4 B g (mkl k0 (p++[⟨nm,lo,nx,ra,rc,rs,ha,hc,hs⟩])++q)):=by
    have h1:=HL4.out
    rw [<- HM3.out] at h1
    show Ls _ _ _ _
    rw [HMK.out,List.append_assoc]
    exact h1
   have HV:Hid (k0+tot (p++[⟨nm,lo,nx,ra,rc,rs,ha,hc,hs⟩])=m4):=by have h1:=HTS.out; have h2:=HW.out; have h3:=HM.out; have h4:=HM3.out; have h5:=HM4.out; show _=_; rw [h1,h2]; omega
   clear hmb HL3 HT3 c3 ht4 hm4' HL4
   go_wp2
   go_roundw
   case rel=>exact ⟨p++[⟨nm,lo,nx,ra,rc,rs,ha,hc,hs⟩],q,by show _=_; rw [HPQ.out]; simp,by have:=HPQ.out; rw [this]; simp,by simp,by rw [HV.out],HT4,HN⟩
   case measure=>simp [intOf]; omega
theorem held_list {B:Nat} (l:List E) (g cap k0:Nat) (w:World) (hel:∀ r ∈ l,r.rs.length <= 1048577/\r.hs.length <= 1048577) (hsz:tot l <= 100000000000) (hl:l.length <= 1048577) (hk0:1 <= k0/\k0 <= 100000000000) (h:Ls w B g (mkl k0 l)) :
  Calls Tryz.prog 36 #[.slice (some ⟨g,0,none⟩) l.length cap,.int .i64 k0] w fun e w'=>e=.returned (.int .i64 (k0+tot l:Nat))/\Below w.heap.size w w':=by
 have HL:Hid (Ls w B g (mkl k0 l)):=h
 have HEL:Hid (∀ r ∈ l,r.rs.length <= 1048577/\r.hs.length <= 1048577):=hel
 have HSZ:Hid (tot l <= 100000000000):=hsz
 have hgl:=h.own.lt
 clear h hel hsz
 go_enter Tryz.func36,Tryz.ntmps36
 go_wp2
 go_loopw [1,5] (fun y x wr=>∃ p q:List E,Hid (l=p++q)/\p.length <= l.length/\x=.int .i64 p.length/\y=.int .i64 (k0+tot p:Nat)/\Hid (Below w.heap.size w wr)) (fun _ x _=>l.length - (intOf x).toNat)
 case atStart=>exact ⟨[],l,rfl,Nat.zero_le _,rfl,rfl,Below.refl _ _⟩
 case round =>
  obtain ⟨p,q,hpq,hpl,rfl,rfl,hbel⟩:=hrel
  match q,hpq with
  | [],hpq =>
   have e:p=l:=by rw [hpq.out]; simp
   subst e
   clear hpq
   go_wp2
   go_ret
   exact ⟨rfl,hbel.out⟩
  | r :: q,hpq =>
   have hmem:r ∈ l:=by rw [hpq.out]; exact mid_in
   have hx:=HEL.out r hmem
   have hlt:(p.length:Int) < (l.length:Int):=by rw [hpq.out]; simp; omega
   have HTM:Hid (tot p+wtm r <= 100000000000):=by have h1:=HSZ.out; rw [hpq.out] at h1; have h2:=tot_mid (p:=p) (q:=q) (r:=r); show _ <= _; omega
   have HW:Hid (wtm r=3+3*r.rs.length+2*r.hs.length):=rfl
   have HTS:Hid (tot (p++[r])=tot p+wtm r):=tot_snoc p r
   have hPl:(mkl k0 p).length=p.length:=mkl_len p k0
   have hL0:=HL.out.on hbel.out
   rw [hpq.out,mkl_app] at hL0
   obtain ⟨m,hm⟩:∃ m,k0+tot p=m:=⟨_,rfl⟩
   rw [hm] at hL0 ⊢
   have HLR:Hid (Ls wr B g (mkl k0 p++mk m r :: mkl (m+wtm r) q)):=hL0
   have HM:Hid (k0+tot p=m):=hm
   have hm9:m <= 300000000000/\1 <= m:=by have:=HTM.out; omega
   obtain ⟨nm,lo,nx,ra,rc,rs,ha,hc,hs⟩:=r
   simp only at hx HW
   have HPQ:Hid (l=p++⟨nm,lo,nx,ra,rc,rs,ha,hc,hs⟩ :: q):=hpq
   have hmt:=fun W=>sm.mark_text m W (by omega) (by omega)
   have cs:=HLR.out.cells p.length hPl
   have HCS:Hid (∀ W,Below wr.heap.size wr W->W.cell? ⟨g,p.length*5,none⟩=some (.string (sm.mt m))/\W.cell? ⟨g,p.length*5+1,none⟩=some (.int .i64 ((m:Int)+1))/\W.cell? ⟨g,p.length*5+2,none⟩=some (.int .i64 ((m:Int)+1+1))/\W.cell? ⟨g,p.length*5+3,none⟩=some (.slice ra rs.length rc)/\W.cell? ⟨g,p.length*5+4,none⟩=some (.slice ha hs.length hc)):=fun W hb=>by
    have hg:g < wr.heap.size:=HLR.out.own.lt
    have e1:=cs 3 _ rfl
    have e2:=cs 4 _ rfl
    simp only [mk,mrY.mks_len,mrK.mks_len] at e1 e2
    exact ⟨(hb.cell (p:=⟨g,p.length*5,none⟩) hg).trans (cs 0 _ rfl),(hb.cell (p:=⟨g,p.length*5+1,none⟩) hg).trans (cs 1 _ rfl),(hb.cell (p:=⟨g,p.length*5+2,none⟩) hg).trans (cs 2 _ rfl),(hb.cell (p:=⟨g,p.length*5+3,none⟩) hg).trans e1,(hb.cell (p:=⟨g,p.length*5+4,none⟩) hg).trans e2⟩
   have HMA:Hid (fo.Mine flY.c 3 134 wr B ra (mrY.mks (m+3) rs.length)):=HLR.out.ea _ mid_in
   have HMB:Hid (fo.Mine flK.c 2 136 wr B ha (mrK.mks (m+3+3*rs.length) hs.length)):=HLR.out.eb _ mid_in
   obtain ⟨c0,c1,c2,c3,c4⟩:=HCS.out wr (Below.refl _ _)
   clear hpq hm hmem hPl hL0 cs HLR
   go_wp2
   go_region_with (go_at_call 74; refine (hmt _).mono ?_; rintro e w1 ⟨rfl,hb1⟩; have hb1':Below wr.heap.size wr w1:=(Below.refl _ _).drew.trans hb1; obtain ⟨d0,d1,d2,d3,d4⟩:=HCS.out w1 hb1')
   all_goals
    clear c0 c1 c2 c3 c4 hmt
    have hma:=rmk.heldY (B:=B) rs.length ra rc (m+3) w1 (by omega) (by omega) (HMA.out.below hb1')
    rw [show ((m+3:Nat):Int)=(m:Int)+1+1+1 by omega] at hma
    obtain ⟨m3,hm3⟩:∃ m3,m+3+3*rs.length=m3:=⟨_,rfl⟩
    rw [hm3] at hma HMB
    have hm39:m3 <= 400000000000/\1 <= m3:=by have h1:=HTM.out; have h2:=HW.out; have h3:=HM.out; omega
    have HM3:Hid (m+3+3*rs.length=m3):=hm3
    clear hm3
    go_wp2_with (go_at_call 83; fail)
    refine hma.mono ?_
    rintro e w3 ⟨rfl,hb3⟩
    have hb3':Below wr.heap.size wr w3:=hb1'.trans (hb3.mono hb1'.size)
    have c3:w3.cell? ⟨g,p.length*5+4,none⟩=some (.slice ha hs.length hc):=(HCS.out w3 hb3').2.2.2.2
    have hmb:=rmk.heldK (B:=B) hs.length ha hc m3 w3 (by omega) (by omega) (HMB.out.below hb3')
    obtain ⟨m4,hm4⟩:∃ m4,m3+2*hs.length=m4:=⟨_,rfl⟩
    rw [hm4] at hmb
    have HM4:Hid (m3+2*hs.length=m4):=hm4
    clear hma hm4 d0 d1 d2 d3 d4
    have hn3:¬ (m3:Int) < 0:=by omega
    go_wp2_with (go_at_call 84; fail)
    refine hmb.mono ?_
    rintro e w4 ⟨rfl,hb4⟩
    have HN:Hid (Below w.heap.size w w4):=hbel.out.trans ((hb3'.trans (hb4.mono hb3'.size)).mono hbel.out.size)
    have HV:Hid (k0+tot (p++[⟨nm,lo,nx,ra,rc,rs,ha,hc,hs⟩])=m4):=by have h1:=HTS.out; have h2:=HW.out; have h3:=HM.out; have h4:=HM3.out; have h5:=HM4.out; show _=_; rw [h1,h2]; omega
    have hn4:¬ (m4:Int) < 0:=by omega
    clear hmb c3
    go_wp2
    go_roundw
    case rel=>exact ⟨p++[⟨nm,lo,nx,ra,rc,rs,ha,hc,hs⟩],q,by show _=_; rw [HPQ.out]; simp,by have:=HPQ.out; rw [this]; simp,by simp,by rw [HV.out],HN⟩
    case measure=>simp [intOf]; omega
end Go.Proofs.YtaoefccgdfcchaaGreat.su
namespace Go.Proofs.YtaoefccgdfcchaaGreat.gh
open dn
structure Agree (o:Oper) (f f':Act):Prop where
 defers:f'.defers=f.defers
 size:f'.tmps.size=f.tmps.size
 same:∀ s,o.dst ≠ some s->f'.tmps[s]?=f.tmps[s]?
theorem Agree.refl (o:Oper) (f:Act):Agree o f f:=⟨rfl,rfl,fun _ _=>rfl⟩
section
variable {σ:Type} {P:Program} {ops:Array Oper} {a0:Act} {fin:σ->Act} {C:σ->(Nat->Bool)->World->Prop} {Q:Exit->Act->World->Prop}
def Step (P:Program) (fin:σ->Act) (C:σ->(Nat->Bool)->World->Prop) (Q:Exit->Act->World->Prop) (i:Nat) (o:Oper):Prop :=
 ∀ (s:σ) (L:Nat->Bool) (w:World) (a:Act),(∀ x ∈ o.op.operands,a.eval x=(fin s).eval x)->(∀ e ∈ o.after,Region.binds .any e=true->L e.on=true)->L i=false->C s L w ->
  ∀ K:Act->World->Prop,(∀ (s':σ) (v:Value) (w':World),Agree o (fin s) (fin s')->(∀ d,o.dst=some d->(fin s').tmps[d]?=some v)->C s' (more L i) w'->K (a.put o.dst v) w')->o.wp P a w K Q
theorem step_val {i:Nat} {o:Oper} (hsel:∀ cs b,o.op ≠ .select cs b)
  (h:∀ (s:σ) (L:Nat->Bool) (w:World),(∀ e ∈ o.after,Region.binds .any e=true->L e.on=true)->L i=false->C s L w ->
   ∃ s' v,Agree o (fin s) (fin s')/\(∀ d,o.dst=some d->(fin s').tmps[d]?=some v)/\left P v (C s' (more L i)) ((execOp (fin s).eval o).run P w)):Step P fin C Q i o:=by
 intro s L w a ha hd h0 hC K hK
 obtain ⟨s',v,hag,hv,hleft⟩:=h s L w hd h0 hC
 unfold Oper.wp
 rw [execOp_congr o hsel ha]
 generalize (execOp (fin s).eval o).run P w=r at *
 cases r with
 | ok n w' =>
  cases n <;> simp only [left] at hleft <;> simp only [Oper.upon]
  case value u =>
   obtain ⟨rfl,hD⟩:=hleft
   exact hK s' _ _ hag hv hD
  case skip =>
   obtain ⟨rfl,hD⟩:=hleft
   exact hK s' _ _ hag hv hD
  case enter f args =>
   exact hleft.mono fun e w'' ⟨he,hD⟩=>by subst he; exact hK s' _ _ hag hv hD
 | halt x w'=>simp only [left] at hleft
theorem Fr.turn {s s':σ} {L:Nat->Bool} {a:Act} (h:Fr ops a0 (fin s) L a) {i:Nat} {o:Oper} (hi:ops[i]?=some o) (hf:Fine ops o i) (h0:L i=false) (hag:Agree o (fin s) (fin s')):Fr ops a0 (fin s') L a:=by
 refine ⟨h.defers.trans hag.defers.symm,h.size.trans hag.size.symm,fun j p q hj hp hL=>?_,h.rest⟩
 have hne:o.dst ≠ some q:=fun e=>by
  have:=hf.alone q e j p hj hp
  subst this
  rw [h0] at hL
  cases hL
 rw [hag.same q hne]
 exact h.done j p q hj hp hL
theorem any_done (hok:okB ops=true) (hfin:∀ (g:σ) (s:Nat),(∀ (i:Nat) (o:Oper),ops[i]?=some o->o.dst ≠ some s)->a0.tmps[s]?=(fin g).tmps[s]?)
  (hstep:∀ (i:Nat) (o:Oper),ops[i]?=some o->Step P fin C Q i o) (hend:∀ (s:σ) (L:Nat->Bool) (w:World),(∀ i,i < ops.size->L i=true)->C s L w->Q .normal (fin s) w) :
  ∀ (fuel:Nat) (l:Array Bool) (s:σ) (a:Act) (w:World),l.size=ops.size->undone l <= fuel->Fr ops a0 (fin s) (fun j=>l.getD j false) a->C s (fun j=>l.getD j false) w->wpAny P .any ops Q fuel l a w:=by
 intro fuel
 have fin_of:∀ (l:Array Bool) (s:σ) (a:Act) (w:World),l.size=ops.size->Fr ops a0 (fin s) (fun j=>l.getD j false) a->C s (fun j=>l.getD j false) w->Region.ready .any ops l=[]->Q .normal a w:=by
  intro l s a w hs hfr hC hr
  have hall:=ready_nil hs hok hr
  have hL:∀ i,i < ops.size->(fun j=>l.getD j false) i=true:=fun i hi=>hall i i (Nat.le_refl _) hi
  rw [hfr.all (hfin s) hL]
  exact hend s _ w hL hC
 induction fuel with
 | zero =>
  intro l s a w hs hu hfr hC
  have hr:Region.ready .any ops l=[]:=by
   cases hr:Region.ready .any ops l with
   | nil=>rfl
   | cons i r =>
    obtain ⟨hlt,hb,_⟩:=ready_spec hs (show i ∈ Region.ready .any ops l by rw [hr]; simp)
    exfalso
    unfold undone at hu
    have h0:l.toList.filter (fun b=>!b)=[]:=List.eq_nil_of_length_eq_zero (by omega)
    have hm:false ∈ l.toList:=by
     rw [Array.getD_eq_getD_getElem?,Array.getElem?_eq_getElem hlt] at hb
     simp only [Option.getD_some] at hb
     rw [<- hb]
     simp
    have:=List.filter_eq_nil_iff.1 h0 false hm
    simp at this
  exact ⟨hr,fin_of l s a w hs hfr hC hr⟩
 | succ fuel ih =>
  intro l s a w hs hu hfr hC
  refine ⟨fun hr=>fin_of l s a w hs hfr hC hr,fun i hi=>?_⟩
  obtain ⟨hlt,hb,o,ho,hd⟩:=ready_spec hs hi
  have hf:=fine_of hok ho
  have hs':(l.setIfInBounds i true).size=ops.size:=by simpa using hs
  have hu':undone (l.setIfInBounds i true) <= fuel:=by
   have h1:=undone_set l.toList i (by
    rw [Array.getD_eq_getD_getElem?,Array.getElem?_eq_getElem hlt] at hb
    simp only [Option.getD_some] at hb
    simp [hlt,hb])
   unfold undone at hu ⊢
   rw [Array.toList_setIfInBounds]
   omega
  have hw:Region.wanted o (yielded ops a.tmps)=true:=by simp [Region.wanted,hf.guard]
  unfold wpOp
  rw [ho]
  simp only [hw,if_true]
  left
  refine hstep i o ho s (fun j=>l.getD j false) w a (hfr.reads hf (hfin s) hd) hd hb hC _ (fun s' v w' hag hv hD=>?_)
  have hfr':=(Fr.turn hfr ho hf hb hag).step ho hf hv
  rw [<- more_set l hlt] at hfr' hD
  exact ih _ _ _ _ hs' hu' hfr' hD
def Each (P:Program) (fin:σ->Act) (C:σ->(Nat->Bool)->World->Prop) (Q:Exit->Act->World->Prop):Nat->List Oper->Prop
 | _,[]=>True
 | n,o :: r=>Step P fin C Q n o/\Each P fin C Q (n+1) r
theorem each_get:∀ (l:List Oper) (n:Nat),Each P fin C Q n l->∀ (i:Nat) (o:Oper),l[i]?=some o->Step P fin C Q (n+i) o
 | [],_,_,i,o,h=>by simp at h
 | x :: r,n,h,0,o,ho=>by simp at ho; subst ho; exact h.1
 | x :: r,n,h,i+1,o,ho=>by
  have:=each_get r (n+1) h.2 i o (by simpa using ho)
  rwa [show n+(i+1)=n+1+i by omega]
def Kept (a b:Array Value):List Nat->Prop
 | []=>True
 | s :: r=>a[s]?=b[s]?/\Kept a b r
theorem kept_get {a b:Array Value}:∀ (l:List Nat),Kept a b l->∀ s ∈ l,a[s]?=b[s]?
 | [],_,s,h=>by cases h
 | x :: r,hk,s,h=>by
  rcases List.mem_cons.1 h with rfl | h
  ·exact hk.1
  ·exact kept_get r hk.2 s h
theorem region_ghost {id:Nat} {l:List Oper} {w:World} (fin:σ->Act) (C:σ->(Nat->Bool)->World->Prop) (s0:σ) (hm:P.follows .mixedOrders=true) (hok:okB l.toArray=true)
  (hdef:a0.defers=(fin s0).defers) (hsz:∀ s,a0.tmps.size=(fin s).tmps.size) (ks:List Nat) (hks:((List.range a0.tmps.size).filter fun s=>!keepB l s)=ks) (hkeep:∀ g,Kept a0.tmps (fin g).tmps ks)
  (hC:C s0 (fun _=>false) w.drew) (hstep:Each P fin C Q 0 l) (hend:∀ (s:σ) (L:Nat->Bool) (w':World),(∀ i,i < l.length->L i=true)->C s L w'->Q .normal (fin s) w') :
  (Code.region id l.toArray true).wp P Q a0 w:=by
 refine wp_region_any hm ?_
 have hL0:(fun j=>(Array.replicate l.toArray.size false).getD j false)=fun _=>false:=by
  funext j
  simp only [Array.getD_eq_getD_getElem?,Array.getElem?_replicate]
  split <;> rfl
 refine any_done (a0:=a0) (fin:=fin) (C:=C) hok (fun g s hs=>?_) (fun i o hi=>?_) (fun s L w' hL hD=>hend s L w' (fun i hi=>hL i (by simpa using hi)) hD) _ _ s0 _ _ (by simp) ?_ ?_ ?_
 ·by_cases hlt:s < a0.tmps.size
  ·refine kept_get ks (hkeep g) s ?_
   rw [<- hks,List.mem_filter]
   refine ⟨by simpa using hlt,?_⟩
   rw [Bool.not_eq_true']
   unfold keepB
   rw [List.any_eq_false]
   intro o ho
   obtain ⟨i,hi⟩:=List.getElem?_of_mem ho
   have:=hs i o (by simpa using hi)
   simpa using this
  ·rw [Array.getElem?_eq_none (by omega),Array.getElem?_eq_none (by rw [<- hsz]; omega)]
 ·have:=each_get l 0 hstep i o (by simpa using hi)
  rwa [Nat.zero_add] at this
 ·unfold undone
  refine Nat.le_trans (List.length_filter_le _ _) (by simp)
 ·rw [hL0]
  exact ⟨hdef,hsz s0,fun i o s _ _ h=>(by cases h),fun s _=>rfl⟩
 ·rw [hL0]
  exact hC
end
end Go.Proofs.YtaoefccgdfcchaaGreat.gh
namespace Go.Proofs.YtaoefccgdfcchaaGreat.dk
open RowKit dn
section
variable {P:Program} {fin:Act} {D:Bool->World->Prop} {k i:Nat} {o:Oper}
def Cl (D:Bool->World->Prop) (k:Nat) (L:Nat->Bool) (w:World):Prop:=D (L k) w
theorem Cl.more (hi:i ≠ k) {L:Nat->Bool} {w:World} (h:Cl D k L w):Cl D k (more L i) w:=by
 unfold Cl Go.Proofs.YtaoefccgdfcchaaGreat.dn.more
 rw [if_neg (Ne.symm hi)]
 exact h
theorem q (hi:i ≠ k) (v:Value) (hd:∀ d,o.dst=some d->fin.tmps[d]?=some v) (hrun:∀ b W,D b W->(execOp fin.eval o).run P W=.ok (.value v) W):Step P fin (Cl D k) i o:=by
 intro L W _ _ hC
 refine ⟨v,hd,?_⟩
 rw [hrun _ _ hC]
 exact ⟨rfl,Cl.more hi hC⟩
theorem call (hi:i ≠ k) (f:FuncId) (args:Array Value) (v:Value) (hd:∀ d,o.dst=some d->fin.tmps[d]?=some v) (hrun:∀ b W,D b W->(execOp fin.eval o).run P W=.ok (.enter f args) W)
  (hcall:∀ b W,D b W->Calls P f args W fun e w'=>e=.returned v/\D b w'):Step P fin (Cl D k) i o:=by
 intro L W _ _ hC
 refine ⟨v,hd,?_⟩
 rw [hrun _ _ hC]
 exact (hcall _ _ hC).mono fun e w' ⟨h1,h2⟩=>⟨h1,Cl.more hi h2⟩
theorem last (hdst:o.dst=none) (hrun:∀ W,D false W->∃ W',(execOp fin.eval o).run P W=.ok .skip W'/\D true W'):Step P fin (Cl D k) k o:=by
 intro L W _ h0 hC
 have hC':D false W:=by unfold Cl at hC; rw [h0] at hC; exact hC
 obtain ⟨W',h1,h2⟩:=hrun W hC'
 refine ⟨undef,(fun d hd=>by rw [hdst] at hd; cases hd),?_⟩
 rw [h1]
 exact ⟨rfl,by unfold Cl Go.Proofs.YtaoefccgdfcchaaGreat.dn.more; rw [if_pos rfl]; exact h2⟩
end
def sets (a:Act):List (Nat × Value)->Act
 | []=>a
 | (t,v) :: r=>(sets a r).put (some t) v
theorem sets_defers (a:Act):∀ ws,(sets a ws).defers=a.defers
 | []=>rfl
 | (t,v) :: r=>by simp [sets,Act.put,sets_defers a r]
theorem sets_size (a:Act):∀ ws,(sets a ws).tmps.size=a.tmps.size
 | []=>rfl
 | (t,v) :: r=>by simp [sets,Act.put,sets_size a r]
theorem sets_off (a:Act) (s:Nat):∀ ws:List (Nat × Value),s ∉ ws.map (·.1)->(sets a ws).tmps[s]?=a.tmps[s]?
 | [],_=>rfl
 | (t,v) :: r,h=>by
  simp at h
  have h1:=sets_off a s r (by simpa using h.2)
  simp only [sets,Act.put]
  rw [<- h1]
  simp [show t ≠ s from fun e=>h.1 e.symm]
theorem sets_on (a:Act) {s:Nat} {v:Value} (hs:s < a.tmps.size):∀ ws:List (Nat × Value),ws.lookup s=some v->(sets a ws).tmps[s]?=some v
 | [],h=>by simp at h
 | (t,u) :: r,h=>by
  simp only [sets,Act.put]
  by_cases e:s=t
  ·subst e
   simp [List.lookup] at h
   subst h
   simp [sets_size,hs]
  ·have h1:=sets_on a hs r (by simpa [List.lookup,show (s == t)=false by simpa using e] using h)
   rw [<- h1]
   simp [show t ≠ s from fun h=>e h.symm]
theorem sets_get (a:Act) (s:Nat) (ws:List (Nat × Value)):(sets a ws).tmps[s]?=match ws.lookup s with | some v=>(if s < a.tmps.size then some v else none) | none=>a.tmps[s]?:=by
 cases h:ws.lookup s with
 | some v =>
  simp only
  split
  ·rename_i hs; exact sets_on a hs ws h
  ·rename_i hs; exact Array.getElem?_eq_none (by rw [sets_size]; omega)
 | none =>
  simp only
  refine sets_off a s ws fun hm=>?_
  obtain ⟨x,hx,rfl⟩:=List.mem_map.1 hm
  have:=List.lookup_eq_none_iff.1 h x hx
  simp at this
theorem eval_on (a:Act) {s:Nat} {v:Value} (ws:List (Nat × Value)) (hs:s < a.tmps.size) (h:ws.lookup s=some v):(sets a ws).eval (.tmp s)=v:=by
 simp [Act.eval,sets_on a hs ws h]
theorem keeps {a0:Act} {l:List Oper} {ks:List Nat} (ws:List (Nat × Value)) (hw:ws.map (·.1)=ks) (hks:(ks.all fun t=>keepB l t)=true) :
  ∀ s ∈ (List.range a0.tmps.size).filter (fun s=>!keepB l s),a0.tmps[s]?=(sets a0 ws).tmps[s]?:=fun s hs=>by
 rw [List.mem_filter] at hs
 refine (sets_off a0 s ws fun hm=>?_).symm
 rw [hw] at hm
 have:=List.all_eq_true.1 hks s hm
 rw [this] at hs
 simp at hs
theorem region_sets {P:Program} {Q:Exit->Act->World->Prop} {id:Nat} {l:List Oper} {w:World} {a0:Act} (ws:List (Nat × Value)) (ks:List Nat) (C:(Nat->Bool)->World->Prop) (hm:P.follows .mixedOrders=true) (hok:okB l.toArray=true)
  (hw:ws.map (·.1)=ks) (hks:(ks.all fun t=>keepB l t)=true) (hC:C (fun _=>false) w.drew) (hstep:Each P (sets a0 ws) C 0 l)
  (hend:∀ (L:Nat->Bool) (w':World),(∀ i,i < l.length->L i=true)->C L w'->Q .normal (sets a0 ws) w'):(Code.region id l.toArray true).wp P Q a0 w :=
 region_done (sets a0 ws) C hm hok (sets_defers a0 ws).symm (sets_size a0 ws).symm _ rfl (keeps ws hw hks) hC hstep hend
theorem lookup_set {s t:Nat} (hne:s ≠ t) (v:Value):∀ (l:List (Nat × Value)) (i:Nat),(l[i]?.map (·.1))=some t->(l.set i (t,v)).lookup s=l.lookup s
 | [],i,h=>by simp at h
 | (x,y) :: r,0,h=>by
  simp at h
  subst h
  simp [List.lookup,show (s == x)=false by simpa using hne]
 | (x,y) :: r,i+1,h=>by
  have:=lookup_set hne v r i (by simpa using h)
  simp only [List.set_cons_succ,List.lookup]
  split <;> first | rfl | exact this
theorem agree_sets {o:Oper} {a:Act} {ws ws':List (Nat × Value)} (i t:Nat) (v:Value) (hd:o.dst=some t) (hi:(ws[i]?.map (·.1))=some t) (h:ws'=ws.set i (t,v)):gh.Agree o (sets a ws) (sets a ws'):=by
 subst h
 refine ⟨by rw [sets_defers,sets_defers],by rw [sets_size,sets_size],fun s hs=>?_⟩
 rw [sets_get,sets_get,lookup_set (fun e=>hs (by rw [hd,e])) v ws i hi]
theorem kept_of {a b:Array Value}:∀ (l:List Nat),(∀ s ∈ l,a[s]?=b[s]?)->gh.Kept a b l
 | [],_=>trivial
 | x :: r,h=>⟨h x (by simp),kept_of r fun s hs=>h s (by simp [hs])⟩
theorem region_gsets {σ:Type} {P:Program} {Q:Exit->Act->World->Prop} {id:Nat} {l:List Oper} {w:World} {a0:Act} (ws:σ->List (Nat × Value)) (ks:List Nat) (C:σ->(Nat->Bool)->World->Prop) (s0:σ) (hm:P.follows .mixedOrders=true) (hok:okB l.toArray=true)
  (hw:∀ g,(ws g).map (·.1)=ks) (hks:(ks.all fun t=>keepB l t)=true) (hC:C s0 (fun _=>false) w.drew) (hstep:gh.Each P (fun g=>sets a0 (ws g)) C Q 0 l)
  (hend:∀ (s:σ) (L:Nat->Bool) (w':World),(∀ i,i < l.length->L i=true)->C s L w'->Q .normal (sets a0 (ws s)) w'):(Code.region id l.toArray true).wp P Q a0 w :=
 gh.region_ghost (fun g=>sets a0 (ws g)) C s0 hm hok (sets_defers a0 _).symm (fun s=>(sets_size a0 (ws s)).symm) _ rfl (fun g=>kept_of _ (keeps (ws g) (hw g) hks)) hC hstep hend
end Go.Proofs.YtaoefccgdfcchaaGreat.dk
namespace Go.Proofs.YtaoefccgdfcchaaGreat.cl
open Go.Shelf RowKit
def ren:Go.Shelf.Ren:=⟨fun | 316=>65 | n=>n,fun | 9=>9 | 3=>3 | 4=>4 | 37=>167 | 0=>0 | 127=>168 | 5=>5 | n=>n,fun | n=>n⟩
theorem laid:Go.Proofs.LaysM.n316 Tryz.prog ren:={
 mixed:=by kernel_rfl
 f316:=Tryz.func65.trans (congrArg some (by kernel_rfl))
 t0:=Tryz.underlying0
 a0:=Tryz.isAgg0
 z0:=Tryz.sizeOf0
 v0:=Tryz.zeroValue0
 t3:=Tryz.underlying3
 a3:=Tryz.isAgg3
 z3:=Tryz.sizeOf3
 v3:=Tryz.zeroValue3
 t4:=Tryz.underlying4
 a4:=Tryz.isAgg4
 z4:=Tryz.sizeOf4
 v4:=Tryz.zeroValue4
 t9:=Tryz.underlying9
 a9:=Tryz.isAgg9
 z9:=Tryz.sizeOf9
 v9:=Tryz.zeroValue9
 t37:=Tryz.underlying167
 a37:=Tryz.isAgg167
 z37:=Tryz.sizeOf167
 v37:=Tryz.zeroValue167
 t127:=Tryz.underlying168
 a127:=Tryz.isAgg168
 z127:=Tryz.sizeOf168
 v127:=Tryz.zeroValue168
 t5:=Tryz.underlying5
 a5:=Tryz.isAgg5
 z5:=Tryz.sizeOf5
 v5:=Tryz.zeroValue5
 i0:=by kernel_rfl
 i3:=by kernel_rfl
 i4:=by kernel_rfl
 i5:=by kernel_rfl
 i9:=by kernel_rfl
 i37:=by kernel_rfl
 i127:=by kernel_rfl }
theorem lite (s:ByteArray) (w:World) (hlim:s.size <= 281474976710656) :
  Calls Tryz.prog 65 #[.string s] w fun e w'=>e=.returned (.string s)/\Below w.heap.size w w':=Any.stringslite_Clone laid s w hlim
theorem clone (s:ByteArray) (w:World) (hlim:s.size <= 281474976710656) :
  Calls Tryz.prog 26 #[.string s] w fun e w'=>e=.returned (.string s)/\Below w.heap.size w w':=by
 go_enter Tryz.func26,Tryz.ntmps26
 go_wp2_with (go_at_call 65; refine (lite s w hlim).mono ?_; rintro e w1 ⟨rfl,hb1⟩)
 go_ret
 exact ⟨rfl,hb1⟩
end Go.Proofs.YtaoefccgdfcchaaGreat.cl
