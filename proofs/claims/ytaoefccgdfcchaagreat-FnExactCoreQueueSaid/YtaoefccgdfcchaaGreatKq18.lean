/- SuFind, QueuePure. -/
import Derived.Test.YtaoefccgdfcchaaGreatKq09
import Derived.Test.YtaoefccgdfcchaaGreatKq06
import Derived.Test.YtaoefccgdfcchaaGreatKq07
import Derived.Test.YtaoefccgdfcchaaGreatKq04
import Derived.Test.YtaoefccgdfcchaaGreatKq05
import Derived.Deep.QuietTactic
set_option maxRecDepth 100000
set_option maxHeartbeats 8000000
set_option linter.unusedVariables false
namespace Go.Proofs.YtaoefccgdfcchaaGreat.su
open ChangeShapes WideShapes ChangeAt RowKit rc ro fl
def R (w:World) (g:Nat) (l:List E):Prop:=g < w.heap.size/\∀ (i:Nat) (e:E),l[i]?=some e->w.cell? ⟨g,i*5,none⟩=some (.string e.nm)/\w.cell? ⟨g,i*5+1,none⟩=some (.int .i64 e.lo)/\w.cell? ⟨g,i*5+2,none⟩=some (.int .i64 e.nx)/\w.cell? ⟨g,i*5+3,none⟩=some (.slice e.ra e.rs.length e.rc)/\w.cell? ⟨g,i*5+4,none⟩=some (.slice e.ha e.hs.length e.hc)
theorem R.below {w w':World} {g:Nat} {l:List E} (h:R w g l) (hb:Below w.heap.size w w'):R w' g l :=
 ⟨Nat.lt_of_lt_of_le h.1 hb.size,fun i e he=>by
  obtain ⟨a0,a1,a2,a3,a4⟩:=h.2 i e he
  exact ⟨(hb.cell (p:=⟨g,i*5,none⟩) h.1).trans a0,(hb.cell (p:=⟨g,i*5+1,none⟩) h.1).trans a1,(hb.cell (p:=⟨g,i*5+2,none⟩) h.1).trans a2,(hb.cell (p:=⟨g,i*5+3,none⟩) h.1).trans a3,(hb.cell (p:=⟨g,i*5+4,none⟩) h.1).trans a4⟩⟩
theorem r_of {w:World} {g:Nat} {l:List E} (h:Row c 5 w w.heap.size (some ⟨g,0,none⟩) l) (hg:g < w.heap.size):R w g l :=
 ⟨hg,fun i e he=>by
  rcases h with h | ⟨b,o,hh,hlt,hc⟩
  ·rw [h] at he; simp at he
  ·cases hh
   have hj:=hc i e he
   exact ⟨by have:=hj 0 _ rfl; simpa using this,by have:=hj 1 _ rfl; simpa using this,by have:=hj 2 _ rfl; simpa using this,by have:=hj 3 _ rfl; simpa using this,by have:=hj 4 _ rfl; simpa using this⟩⟩
def Up (l:List E) (n:Nat):Prop:=∀ i a b,i+1 < n->l[i]?=some a->l[i+1]?=some b->cmpT a.nm b.nm < 0
def Mon (l:List E) (name:ByteArray):Prop:=∀ (i j:Nat) a b,i <= j->l[i]?=some a->l[j]?=some b->cmpT b.nm name < 0->cmpT a.nm name < 0
def Pos (l:List E) (name:ByteArray) (p:Nat):Prop:=p <= l.length/\(∀ (i:Nat) a,i < p->l[i]?=some a->cmpT a.nm name < 0)/\∀ (i:Nat) a,p <= i->l[i]?=some a->0 <= cmpT a.nm name
theorem up_lt {l:List E} (h:Up l l.length):∀ (d i:Nat) (a b:E),l[i]?=some a->l[i+d+1]?=some b->lt a.nm b.nm=true
 | 0,i,a,b,ha,hb=>cmp_neg.1 (h i a b (List.getElem?_eq_some_iff.1 hb).1 ha hb)
 | d+1,i,a,b,ha,hb=>by
  have hlt:=(List.getElem?_eq_some_iff.1 hb).1
  have hm:l[i+d+1]?=some l[i+d+1]:=List.getElem?_eq_getElem (by omega)
  exact lt_trans (up_lt h d i a _ ha hm) (cmp_neg.1 (h (i+d+1) _ b (by omega) hm (by rw [<- hb]; congr 1)))
theorem up_mon {l:List E} (h:Up l l.length) (name:ByteArray):Mon l name:=by
 intro i j a b hij ha hb hn
 by_cases e:i=j
 ·subst e
  rw [ha] at hb
  cases hb
  exact hn
 ·obtain ⟨d,rfl⟩:∃ d,j=i+d+1:=⟨j - i - 1,by omega⟩
  exact cmp_neg.2 (lt_trans (up_lt h d i a b ha hb) (cmp_neg.1 hn))
theorem found {l:List E} (h:Up l l.length) {name:ByteArray} {p:Nat} (hp:Pos l name p):(∃ a,l[p]?=some a/\cmpT a.nm name=0) ↔ ∃ (t:Nat) (a:E),l[t]?=some a/\a.nm=name:=by
 constructor
 ·rintro ⟨a,ha,hz⟩
  exact ⟨p,a,ha,cmp_zero.1 hz⟩
 ·rintro ⟨t,a,ha,rfl⟩
  have hz:=cmp_zero.2 (rfl:a.nm=a.nm)
  have htp:p <= t:=by
   by_cases e:t < p
   ·have:=hp.2.1 t a e ha; omega
   ·omega
  by_cases e:t=p
  ·subst e; exact ⟨a,ha,hz⟩
  ·obtain ⟨d,rfl⟩:∃ d,t=p+d+1:=⟨t - p - 1,by omega⟩
   have hlt:=(List.getElem?_eq_some_iff.1 ha).1
   have hm:l[p]?=some l[p]:=List.getElem?_eq_getElem (by omega)
   have h1:=hp.2.2 p _ (Nat.le_refl _) hm
   have h2:=cmp_neg.2 (up_lt h d p _ a hm ha)
   omega
theorem compare_one (anm:ByteArray) (alo anx:Int) (ara:Option Addr) (arc:Nat) (ars:List flY.En) (aha:Option Addr) (ahc:Nat) (ahs:List rr.Ex) (bnm:ByteArray) (blo bnx:Int) (bra:Option Addr) (brc:Nat) (brs:List flY.En) (bha:Option Addr) (bhc:Nat) (bhs:List rr.Ex) (w:World):Calls Tryz.prog 58 #[.agg #[.string anm,.int .i64 alo,.int .i64 anx,.slice ara ars.length arc,.slice aha ahs.length ahc],.agg #[.string bnm,.int .i64 blo,.int .i64 bnx,.slice bra brs.length brc,.slice bha bhs.length bhc]] w fun e w'=>e=.returned (.int .i64 (cmpT anm bnm))/\Below w.heap.size w w':=by
 have hc:=fun W=>cmpS anm bnm W
 go_enter Tryz.func58,Tryz.ntmps58
 go_wp2_with (go_at_call 115; refine (hc _).mono ?_; rintro e w0 ⟨rfl,hw0⟩; rw [hw0]; clear hw0 w0)
 go_ret
 exact ⟨rfl,((Below.refl _ _).alloc (Nat.le_refl _) _).alloc (by simp) _⟩
theorem asc_all (l:List E) (g cp:Nat) (w:World) (hl:l.length <= 1048576) (hE:R w g l) :
  Calls Tryz.prog 57 #[.slice (some ⟨g,0,none⟩) l.length cp,.func (.func 58) #[] #[]] w fun r w'=>(∃ b:Bool,r=.returned (.bool b)/\(b=true ↔ Up l l.length))/\Below w.heap.size w w':=by
 have HE:Hid (R w g l):=hE
 clear hE
 go_enter Tryz.func57,Tryz.ntmps57
 go_wp2
 go_loopw [5] (fun v wr=>∃ k:Nat,1 <= k/\(k <= l.length ∨ k=1)/\v=.int .i64 k/\Hid (Up l k)/\Below w.heap.size w wr) (fun v _=>l.length - (intOf v).toNat)
 case atStart=>exact ⟨1,Nat.le_refl _,.inr rfl,rfl,fun i a b h=>by omega,Below.refl _ _⟩
 case round =>
  obtain ⟨k,hk1,hk2,rfl,hup,hbel⟩:=hrel
  have hbs:=hbel.size
  by_cases hkl:k < l.length
  ·obtain ⟨m,rfl⟩:∃ m,k=m+1:=⟨k - 1,by omega⟩
   have g0:l[m]?=some l[m]:=List.getElem?_eq_getElem (by omega)
   have g1:l[m+1]?=some l[m+1]:=List.getElem?_eq_getElem hkl
   have hE2:=HE.out.below hbel
   obtain ⟨a0,a1,a2,a3,a4⟩:=hE2.2 m _ g0
   obtain ⟨b0,b1,b2,b3,b4⟩:=hE2.2 (m+1) _ g1
   have hgl:=hE2.1
   have HG0:Hid (l[m]?=some l[m]):=g0
   have HG1:Hid (l[m+1]?=some l[m+1]):=g1
   obtain ⟨⟨anm,alo,anx,ara,arc,ars,aha,ahc,ahs⟩,ha⟩:∃ e,l[m]=e:=⟨_,rfl⟩
   obtain ⟨⟨bnm,blo,bnx,bra,brc,brs,bha,bhc,bhs⟩,hb⟩:∃ e,l[m+1]=e:=⟨_,rfl⟩
   rw [ha] at a0 a1 a2 a3 a4 HG0
   rw [hb] at b0 b1 b2 b3 b4 HG1
   have hcmp:=compare_one anm alo anx ara arc ars aha ahc ahs bnm blo bnx bra brc brs bha bhc bhs wr.drew
   obtain ⟨z,hz⟩:∃ z,cmpT anm bnm=z:=⟨_,rfl⟩
   rw [hz] at hcmp
   have HZ:Hid (cmpT anm bnm=z):=hz
   clear g0 g1 ha hb hE2 hz
   have i1:IntKind.i64.wrap (m:Int)=(m:Int):=by rw [IntKind.wrap_i64]; omega
   have i2:(m:Int) < (l.length:Int):=by omega
   have i3:(m:Int)+1 < (l.length:Int):=by omega
   have i4:((m:Int)+1).toNat=m+1:=by omega
   by_cases hneg:z < 0
   ·have hup2:Hid (Up l (m+1+1)):=fun j a b hj ha hb=>by
     by_cases e:j=m
     ·subst e
      rw [HG0.out] at ha
      rw [HG1.out] at hb
      cases ha
      cases hb
      show cmpT anm bnm < 0
      rw [HZ.out]
      exact hneg
     ·exact hup.out j a b (by omega) ha hb
    go_wp2
    go_region_with (go_at_call 58; refine hcmp.mono ?_; rintro e w1 ⟨rfl,hb1⟩)
    all_goals go_wp2
    all_goals go_roundw
    all_goals first | exact ⟨m+1+1,by omega,.inl (by omega),by go_num,hup2,hbel.drew.trans (hb1.mono hbs)⟩ | (simp [intOf]; omega)
   ·have hno:¬ Up l l.length:=fun h=>by
     have:=h m _ _ (by omega) HG0.out HG1.out
     have h2:cmpT anm bnm < 0:=this
     rw [HZ.out] at h2
     exact hneg h2
    have HNO:Hid (¬ Up l l.length):=hno
    have hge:(0:Int) <= z:=by omega
    clear hno
    go_wp2
    go_region_with (go_at_call 58; refine hcmp.mono ?_; rintro e w1 ⟨rfl,hb1⟩)
    all_goals go_wp2
    all_goals go_ret
    all_goals exact ⟨⟨false,rfl,by simp; exact HNO.out⟩,hbel.drew.trans (hb1.mono hbs)⟩
  ·have hall:Hid (Up l l.length):=fun j a b hj ha hb=>hup.out j a b (by omega) ha hb
   go_wp2
   go_ret
   exact ⟨⟨true,rfl,by simp; exact hall.out⟩,hbel⟩
theorem search_all (l:List E) (g cp:Nat) (name:ByteArray) (w:World) (hl:l.length <= 1048576) (hE:R w g l) (hM:Mon l name) :
  Calls Tryz.prog 62 #[.slice (some ⟨g,0,none⟩) l.length cp,.agg #[.string name,.int .i64 0,.int .i64 0,.slice none 0 0,.slice none 0 0],.func (.func 58) #[] #[]] w fun r w'=>(∃ (p:Nat) (b:Bool),r=.returned (.tuple #[.int .i64 p,.bool b])/\Pos l name p/\(b=true ↔ ∃ a,l[p]?=some a/\cmpT a.nm name=0))/\Below w.heap.size w w':=by
 have hb:=fl.bl w (.cells #[.string name,.int .i64 0,.int .i64 0,.slice none 0 0,.slice none 0 0] 54)
 have HE:Hid (R w g l):=hE
 have HM:Hid (Mon l name):=hM
 have tb:=heap_alloc_new w (.cells #[.string name,.int .i64 0,.int .i64 0,.slice none 0 0,.slice none 0 0] 54)
 have hlt:w.heap.size < (w.alloc (.cells #[.string name,.int .i64 0,.int .i64 0,.slice none 0 0,.slice none 0 0] 54)).heap.size:=by simp
 obtain ⟨W,hW⟩:∃ W,w.alloc (.cells #[.string name,.int .i64 0,.int .i64 0,.slice none 0 0,.slice none 0 0] 54)=W:=⟨_,rfl⟩
 rw [hW] at hb tb hlt
 have HTB:Hid (W.heap[w.heap.size]?=some (.cells #[.string name,.int .i64 0,.int .i64 0,.slice none 0 0,.slice none 0 0] 54 (0,0))):=tb
 have HEW:Hid (R W g l):=HE.out.below hb
 clear hE hM tb
 go_enter Tryz.func62,Tryz.ntmps62
 go_wp2
 clear hW
 go_loopw [9,10,11] (fun v x _ wr=>∃ (i j:Nat),i <= j/\j <= l.length/\v=.int .i64 i/\x=.int .i64 j/\Hid ((∀ (t:Nat) a,t < i->l[t]?=some a->cmpT a.nm name < 0)/\∀ (t:Nat) a,j <= t->l[t]?=some a->0 <= cmpT a.nm name)/\Below W.heap.size W wr) (fun v x _ _=>(intOf x).toNat - (intOf v).toNat)
 case atStart=>exact ⟨0,l.length,Nat.zero_le _,Nat.le_refl _,rfl,rfl,⟨fun t a h=>by omega,fun t a h ha=>by have:=(List.getElem?_eq_some_iff.1 ha).1; omega⟩,Below.refl _ _⟩
 case round =>
  obtain ⟨i,j,hij,hjl,rfl,rfl,hinv,hbel⟩:=hrel
  have hbs:=hbel.size
  by_cases hlt2:i < j
  ·obtain ⟨h,hh,hh1,hh2⟩:∃ h:Nat,((i:Int)+(j:Int)) / 2=(h:Int)/\i <= h/\h < j:=⟨(i+j) / 2,by omega,by omega,by omega⟩
   have g0:l[h]?=some l[h]:=List.getElem?_eq_getElem (by omega)
   obtain ⟨a0,a1,a2,a3,a4⟩:=(HEW.out.below hbel).2 h _ g0
   have t0:wr.cell? ⟨w.heap.size,0,none⟩=some (.string name):=by
    have:=(hbel.block w.heap.size hlt).trans HTB.out
    simp [World.cell?,this]
   have t1:wr.cell? ⟨w.heap.size,1,none⟩=some (.int .i64 0):=by
    have:=(hbel.block w.heap.size hlt).trans HTB.out
    simp [World.cell?,this]
   have t2:wr.cell? ⟨w.heap.size,2,none⟩=some (.int .i64 0):=by
    have:=(hbel.block w.heap.size hlt).trans HTB.out
    simp [World.cell?,this]
   have t3:wr.cell? ⟨w.heap.size,3,none⟩=some (.slice none 0 0):=by
    have:=(hbel.block w.heap.size hlt).trans HTB.out
    simp [World.cell?,this]
   have t4:wr.cell? ⟨w.heap.size,4,none⟩=some (.slice none 0 0):=by
    have:=(hbel.block w.heap.size hlt).trans HTB.out
    simp [World.cell?,this]
   have HG0:Hid (l[h]?=some l[h]):=g0
   obtain ⟨⟨anm,alo,anx,ara,arc,ars,aha,ahc,ahs⟩,ha⟩:∃ e,l[h]=e:=⟨_,rfl⟩
   rw [ha] at a0 a1 a2 a3 a4 HG0
   have hcmp:=compare_one anm alo anx ara arc ars aha ahc ahs name 0 0 none 0 [] none 0 [] wr.drew
   obtain ⟨z,hz⟩:∃ z,cmpT anm name=z:=⟨_,rfl⟩
   rw [hz] at hcmp
   have HZ:Hid (cmpT anm name=z):=hz
   have i2:(h:Int) < (l.length:Int):=by omega
   clear g0 ha hz
   by_cases hneg:z < 0
   ·have hinv2:Hid ((∀ (t:Nat) a,t < h+1->l[t]?=some a->cmpT a.nm name < 0)/\∀ (t:Nat) a,j <= t->l[t]?=some a->0 <= cmpT a.nm name):=⟨fun t a ht hta=>HM.out t h a _ (by omega) hta HG0.out (by show cmpT anm name < 0; rw [HZ.out]; exact hneg),hinv.out.2⟩
    go_wp2
    go_region_with (go_at_call 58; refine hcmp.mono ?_; rintro e w1 ⟨rfl,hb1⟩)
    all_goals go_wp2
    all_goals go_roundw
    all_goals first | exact ⟨h+1,j,by omega,hjl,by go_num,rfl,hinv2,hbel.drew.trans (hb1.mono hbs)⟩ | (simp [intOf]; omega)
   ·have hinv2:Hid ((∀ (t:Nat) a,t < i->l[t]?=some a->cmpT a.nm name < 0)/\∀ (t:Nat) a,h <= t->l[t]?=some a->0 <= cmpT a.nm name):=⟨hinv.out.1,fun t a ht hta=>by
     by_cases hn:cmpT a.nm name < 0
     ·have h3:=HM.out h t _ a ht HG0.out hta hn
      have h4:cmpT anm name < 0:=h3
      rw [HZ.out] at h4
      exact absurd h4 hneg
     ·omega⟩
    have hge:(0:Int) <= z:=by omega
    go_wp2
    go_region_with (go_at_call 58; refine hcmp.mono ?_; rintro e w1 ⟨rfl,hb1⟩)
    all_goals go_wp2
    all_goals go_roundw
    all_goals first | exact ⟨i,h,by omega,by omega,rfl,rfl,hinv2,hbel.drew.trans (hb1.mono hbs)⟩ | (simp [intOf]; omega)
  ·obtain rfl:i=j:=by omega
   have hpos:Hid (Pos l name i):=⟨hjl,hinv.out.1,hinv.out.2⟩
   by_cases hil:i < l.length
   ·have g0:l[i]?=some l[i]:=List.getElem?_eq_getElem hil
    obtain ⟨a0,a1,a2,a3,a4⟩:=(HEW.out.below hbel).2 i _ g0
    have t0:wr.cell? ⟨w.heap.size,0,none⟩=some (.string name):=by
     have:=(hbel.block w.heap.size hlt).trans HTB.out
     simp [World.cell?,this]
    have t1:wr.cell? ⟨w.heap.size,1,none⟩=some (.int .i64 0):=by
     have:=(hbel.block w.heap.size hlt).trans HTB.out
     simp [World.cell?,this]
    have t2:wr.cell? ⟨w.heap.size,2,none⟩=some (.int .i64 0):=by
     have:=(hbel.block w.heap.size hlt).trans HTB.out
     simp [World.cell?,this]
    have t3:wr.cell? ⟨w.heap.size,3,none⟩=some (.slice none 0 0):=by
     have:=(hbel.block w.heap.size hlt).trans HTB.out
     simp [World.cell?,this]
    have t4:wr.cell? ⟨w.heap.size,4,none⟩=some (.slice none 0 0):=by
     have:=(hbel.block w.heap.size hlt).trans HTB.out
     simp [World.cell?,this]
    have HG0:Hid (l[i]?=some l[i]):=g0
    obtain ⟨⟨anm,alo,anx,ara,arc,ars,aha,ahc,ahs⟩,ha⟩:∃ e,l[i]=e:=⟨_,rfl⟩
    rw [ha] at a0 a1 a2 a3 a4 HG0
    have hcmp:=compare_one anm alo anx ara arc ars aha ahc ahs name 0 0 none 0 [] none 0 [] wr.drew
    obtain ⟨z,hz⟩:∃ z,cmpT anm name=z:=⟨_,rfl⟩
    rw [hz] at hcmp
    have HZ:Hid (cmpT anm name=z):=hz
    have i2:(i:Int) < (l.length:Int):=by omega
    have hd:decide ((i:Int) < (l.length:Int))=true:=by simp; omega
    have kc:∀ N:qi.Cls wr,Calls Tryz.prog 58 #[.agg #[.string anm,.int .i64 alo,.int .i64 anx,.slice ara ars.length arc,.slice aha ahs.length ahc],.agg #[.string name,.int .i64 0,.int .i64 0,.slice none 0 0,.slice none 0 0]] N.x fun e w'=>e=.returned (.int .i64 z)/\qi.T wr w':=fun N=>by
     have h:=compare_one anm alo anx ara arc ars aha ahc ahs name 0 0 none 0 [] none 0 [] N.x
     rw [HZ.out] at h
     exact h.mono fun e w' ⟨h1,h2⟩=>⟨h1,N.h.next h2⟩
    have hgl:=(HEW.out.below hbel).1
    have htl:w.heap.size < wr.heap.size:=Nat.lt_of_lt_of_le hlt hbs
    have A0:=fun N:qi.Cls wr=>(Below.cell N.h (p:=⟨g,i*5,none⟩) hgl).trans a0
    have A1:=fun N:qi.Cls wr=>(Below.cell N.h (p:=⟨g,i*5+1,none⟩) hgl).trans a1
    have A2:=fun N:qi.Cls wr=>(Below.cell N.h (p:=⟨g,i*5+2,none⟩) hgl).trans a2
    have A3:=fun N:qi.Cls wr=>(Below.cell N.h (p:=⟨g,i*5+3,none⟩) hgl).trans a3
    have A4:=fun N:qi.Cls wr=>(Below.cell N.h (p:=⟨g,i*5+4,none⟩) hgl).trans a4
    have T0:=fun N:qi.Cls wr=>(Below.cell N.h (p:=⟨w.heap.size,0,none⟩) htl).trans t0
    have T1:=fun N:qi.Cls wr=>(Below.cell N.h (p:=⟨w.heap.size,1,none⟩) htl).trans t1
    have T2:=fun N:qi.Cls wr=>(Below.cell N.h (p:=⟨w.heap.size,2,none⟩) htl).trans t2
    have T3:=fun N:qi.Cls wr=>(Below.cell N.h (p:=⟨w.heap.size,3,none⟩) htl).trans t3
    have T4:=fun N:qi.Cls wr=>(Below.cell N.h (p:=⟨w.heap.size,4,none⟩) htl).trans t4
    clear g0 ha hz hcmp a0 a1 a2 a3 a4 t0 t1 t2 t3 t4
    go_wp2
    refine qi.region_in wr (qi.T.refl wr) (by kernel_rfl) (by kernel_rfl) ?_
    repeat (go_big_quiet_step (first | (go_at_call 58; refine (kc _).mono ?_; rintro e wx ⟨rfl,hTx⟩; exact ⟨rfl,⟨wx,hTx⟩,rfl⟩)))
    refine wpQuiet_nil ?_
    rintro _ ⟨N,rfl⟩
    have hN:=N.h
    generalize N.x=wN at hN ⊢
    clear N kc A0 A1 A2 A3 A4 T0 T1 T2 T3 T4
    go_wp2
    go_ret2
    exact ⟨⟨i,z == 0,rfl,hpos.out,by simp; rw [<- HZ.out]; exact ⟨fun h=>⟨_,HG0.out,h⟩,fun ⟨a,ha,h⟩=>by rw [HG0.out] at ha; cases ha; exact h⟩⟩,hb.trans ((hbel.trans (Below.mono hN hbs)).mono (by omega))⟩
   ·have hd:decide ((i:Int) < (l.length:Int))=false:=by simp; omega
    have hd2:¬ (i:Int) < (l.length:Int):=by omega
    go_wp2
    refine qi.region_in wr (qi.T.refl wr) (by kernel_rfl) (by kernel_rfl) ?_
    repeat (go_big_quiet_step (first | (go_at_call 58; fail)))
    refine wpQuiet_nil ?_
    rintro _ ⟨N,rfl⟩
    have hN:=N.h
    generalize N.x=wN at hN ⊢
    clear N
    go_wp2
    go_ret2
    exact ⟨⟨i,false,rfl,hpos.out,by simp; intro a ha; have:=(List.getElem?_eq_some_iff.1 ha).1; omega⟩,hb.trans ((hbel.trans (Below.mono hN hbs)).mono (by omega))⟩
theorem find_all (l:List E) (g cp:Nat) (name:ByteArray) (w:World) (hl:l.length <= 1048576) (hE:R w g l) (hU:Up l l.length) :
  Calls Tryz.prog 24 #[.slice (some ⟨g,0,none⟩) l.length cp,.string name] w fun r w'=>(∃ (p:Nat) (b:Bool),r=.returned (.tuple #[.int .i64 p,.bool b])/\Pos l name p/\(b=true ↔ ∃ (t:Nat) (a:E),l[t]?=some a/\a.nm=name))/\Below w.heap.size w w':=by
 have hs:=search_all l g cp name w hl hE (up_mon hU name)
 have HU:Hid (Up l l.length):=hU
 clear hE hU
 go_enter Tryz.func24,Tryz.ntmps24
 go_wp2_with (go_at_call 62; refine hs.mono ?_; rintro e w1 ⟨⟨p,b,rfl,hp,hb⟩,hb1⟩)
 go_ret2
 exact ⟨⟨p,b,rfl,hp,hb.trans (found HU.out hp)⟩,hb1⟩
end Go.Proofs.YtaoefccgdfcchaaGreat.su
namespace Go.Proofs.YtaoefccgdfcchaaGreat.qk
open ChangeShapes WideShapes ChangeAt RowKit fl
def mOk (m:flM.Ms) (nx:Int):Bool:=decide (1 <= m.q/\m.q <= nx - 1) && ((decide (m.x=⟨#[]⟩) || nm.good m.x) && (ky.good m.k && decide (m.b.size <= 3000)))
def hOk (h:flH.Hd):Bool:=decide (0 <= h.o/\h.o <= 1000) && decide (1 <= h.t/\h.t <= 1000000000)
def hLt (a b:flH.Hd):Prop:=a.o < b.o ∨ (a.o=b.o/\a.t < b.t)
structure OkQ (n:ByteArray) (nx:Int) (rs:List flM.Ms) (hs:List flH.Hd):Prop where
 nmo:nm.good n=true
 nxo:1 <= nx/\nx <= 1000000000
 ln:rs.length+hs.length <= 500
 rm:∀ (i:Nat) (m:flM.Ms),rs[i]?=some m->mOk m nx=true
 ru:∀ (i:Nat) (a b:flM.Ms),rs[i]?=some a->rs[i+1]?=some b->a.q < b.q
 hm:∀ (i:Nat) (h:flH.Hd),hs[i]?=some h->mOk h.m nx=true/\hOk h=true
 hu:∀ (i:Nat) (a b:flH.Hd),hs[i]?=some a->hs[i+1]?=some b->hLt a b
 d1:∀ (i k:Nat) (m:flM.Ms) (h:flH.Hd),rs[k]?=some m->hs[i]?=some h->m.q ≠ h.m.q
 d2:∀ (i k:Nat) (a b:flH.Hd),k < i->hs[k]?=some a->hs[i]?=some b->a.m.q ≠ b.m.q
theorem of_same {x y:ByteArray} (h:x.toList=y.toList):x=y:=by
 rw [Lib.toList_data,Lib.toList_data] at h
 exact ByteArray.ext (Array.toList_inj.1 h)
theorem ne_nil {x:ByteArray} (h:x ≠ ⟨#[]⟩):¬ x.toList=[]:=fun e=>h (of_same (e.trans (by rw [Lib.toList_data])))
theorem spec_msg (m:flM.Ms) (nx:Int) (w:World) (hnx:1 <= nx/\nx <= 1000000000) (hm:m.x.size <= 1048576/\m.k.size <= 1048576/\m.b.size <= 1048576) :
  Calls Tryz.prog 93 #[.agg #[.int .i64 m.q,.string m.x,.string m.k,.string m.b,.bool m.a],.int .i64 nx] w fun e w'=>e=.returned (.bool (mOk m nx))/\Below w.heap.size w w':=by
 obtain ⟨q,x,k,b,a⟩:=m
 obtain ⟨h1,h2,h3⟩:=hm
 simp only at h1 h2 h3 ⊢
 have hin:=fun W=>ky.within q 1 (nx - 1) W
 have hnm:=fun W=>nm.spec_name x W h1
 have hky:=fun W=>ky.spec_key k W h2
 have hwr:IntKind.i64.wrap (nx - 1)=nx - 1:=by rw [IntKind.wrap_i64]; omega
 unfold mOk
 simp only
 generalize nm.good x=b2 at hnm ⊢
 generalize ky.good k=b3 at hky ⊢
 generalize decide (1 <= q/\q <= nx - 1)=b1 at hin ⊢
 have hb:=fl.bl w (.cells #[.int .i64 q,.string x,.string k,.string b,.bool a] 129)
 by_cases hx:x=⟨#[]⟩
 ·subst hx
  by_cases h30:b.size <= 3000
  ·have g1:(b.size:Int) <= 3000:=by omega
   cases b1 <;> cases b3
   all_goals
    go_enter Tryz.func93,Tryz.ntmps93
    go_wp2_with (first | (go_at_call 92; refine (hin _).mono ?_; rintro e w1 ⟨rfl,hw1⟩; obtain rfl:=hw1.symm) | (go_at_call 91; refine (hnm _).mono ?_; rintro e w2 ⟨rfl,hw2⟩; obtain rfl:=hw2.symm) | (go_at_call 96; refine (hky _).mono ?_; rintro e w3 ⟨rfl,hw3⟩; obtain rfl:=hw3.symm))
    go_ret
    exact ⟨by first | (simp [h30]; done) | (simp [h30,g1]; done) | (simp [h30]; omega),hb⟩
  ·have g1:¬ (b.size:Int) <= 3000:=by omega
   cases b1 <;> cases b3
   all_goals
    go_enter Tryz.func93,Tryz.ntmps93
    go_wp2_with (first | (go_at_call 92; refine (hin _).mono ?_; rintro e w1 ⟨rfl,hw1⟩; obtain rfl:=hw1.symm) | (go_at_call 91; refine (hnm _).mono ?_; rintro e w2 ⟨rfl,hw2⟩; obtain rfl:=hw2.symm) | (go_at_call 96; refine (hky _).mono ?_; rintro e w3 ⟨rfl,hw3⟩; obtain rfl:=hw3.symm))
    go_ret
    exact ⟨by first | (simp [h30]; done) | (simp [h30,g1]; done) | (simp [h30]; omega),hb⟩
 ·have hx2:(x.toList == [])=false:=by simp; exact ne_nil hx
  by_cases h30:b.size <= 3000
  ·have g1:(b.size:Int) <= 3000:=by omega
   cases b1 <;> cases b2 <;> cases b3
   all_goals
    go_enter Tryz.func93,Tryz.ntmps93
    go_wp2_with (first | (go_at_call 92; refine (hin _).mono ?_; rintro e w1 ⟨rfl,hw1⟩; obtain rfl:=hw1.symm) | (go_at_call 91; refine (hnm _).mono ?_; rintro e w2 ⟨rfl,hw2⟩; obtain rfl:=hw2.symm) | (go_at_call 96; refine (hky _).mono ?_; rintro e w3 ⟨rfl,hw3⟩; obtain rfl:=hw3.symm))
    go_ret
    exact ⟨by first | (simp [h30,hx]; done) | (simp [h30,hx]; omega),hb⟩
  ·have g1:¬ (b.size:Int) <= 3000:=by omega
   cases b1 <;> cases b2 <;> cases b3
   all_goals
    go_enter Tryz.func93,Tryz.ntmps93
    go_wp2_with (first | (go_at_call 92; refine (hin _).mono ?_; rintro e w1 ⟨rfl,hw1⟩; obtain rfl:=hw1.symm) | (go_at_call 91; refine (hnm _).mono ?_; rintro e w2 ⟨rfl,hw2⟩; obtain rfl:=hw2.symm) | (go_at_call 96; refine (hky _).mono ?_; rintro e w3 ⟨rfl,hw3⟩; obtain rfl:=hw3.symm))
    go_ret
    exact ⟨by first | (simp [h30,hx]; done) | (simp [h30,hx]; omega),hb⟩
def hB (a b:flH.Hd):Bool:=if a.o=b.o then decide (a.t < b.t) else decide (a.o < b.o)
theorem hB_true {a b:flH.Hd}:hB a b=true ↔ hLt a b:=by
 unfold hB hLt
 split
 ·rename_i h; simp [h]
 ·rename_i h; simp [h]
theorem bdrewN {B:Nat} {a w:World} (h:Below B a w) (n:Nat):Below B a (w.drewN n):=⟨h.os,h.tape,h.output,h.size,h.block⟩
theorem spec_before (a b:flH.Hd) (w:World) :
  Calls Tryz.prog 94 #[.agg #[.int .i64 a.t,.int .i64 a.o,.int .i64 a.m.q,.string a.m.x,.string a.m.k,.string a.m.b,.bool a.m.a],.agg #[.int .i64 b.t,.int .i64 b.o,.int .i64 b.m.q,.string b.m.x,.string b.m.k,.string b.m.b,.bool b.m.a]] w fun e w'=>e=.returned (.bool (hB a b))/\Below w.heap.size w w':=by
 obtain ⟨at',ao,⟨aq,ax,ak,ab,aa⟩⟩:=a
 obtain ⟨bt,bo,⟨bq,bx,bk,bb,ba⟩⟩:=b
 have hbl:Below w.heap.size w ((w.alloc (.cells #[.int .i64 at',.int .i64 ao,.int .i64 aq,.string ax,.string ak,.string ab,.bool aa] 131)).alloc (.cells #[.int .i64 bt,.int .i64 bo,.int .i64 bq,.string bx,.string bk,.string bb,.bool ba] 131)):=((Below.refl _ _).alloc (Nat.le_refl _) _).alloc (by simp) _
 have hA:=bold (bnew w #[.int .i64 at',.int .i64 ao,.int .i64 aq,.string ax,.string ak,.string ab,.bool aa] 131) (.cells #[.int .i64 bt,.int .i64 bo,.int .i64 bq,.string bx,.string bk,.string bb,.bool ba] 131)
 have hB':=bnew (w.alloc (.cells #[.int .i64 at',.int .i64 ao,.int .i64 aq,.string ax,.string ak,.string ab,.bool aa] 131)) #[.int .i64 bt,.int .i64 bo,.int .i64 bq,.string bx,.string bk,.string bb,.bool ba] 131
 rw [World.size_alloc] at hB'
 obtain ⟨W,hW⟩:∃ W,(w.alloc (.cells #[.int .i64 at',.int .i64 ao,.int .i64 aq,.string ax,.string ak,.string ab,.bool aa] 131)).alloc (.cells #[.int .i64 bt,.int .i64 bo,.int .i64 bq,.string bx,.string bk,.string bb,.bool ba] 131)=W:=⟨_,rfl⟩
 rw [hW] at hbl hA hB'
 have a0:W.cell? ⟨w.heap.size,0,none⟩=some (.int .i64 at'):=bcell hA rfl
 have a1:W.cell? ⟨w.heap.size,1,none⟩=some (.int .i64 ao):=bcell hA rfl
 have b0:W.cell? ⟨w.heap.size+1,0,none⟩=some (.int .i64 bt):=bcell hB' rfl
 have b1:W.cell? ⟨w.heap.size+1,1,none⟩=some (.int .i64 bo):=bcell hB' rfl
 have HA:Hid (W.heap[w.heap.size]?=_):=hA
 have HB:Hid (W.heap[w.heap.size+1]?=_):=hB'
 have l1:=(Array.getElem?_eq_some_iff.1 hA).1
 have l2:=(Array.getElem?_eq_some_iff.1 hB').1
 clear hA hB'
 go_enter Tryz.func94,Tryz.ntmps94
 unfold hB
 simp only
 by_cases he:ao=bo
 ·have he2:(ao != bo)=false:=by simp [he]
  rw [if_pos he]
  clear he
  go_wp2
  go_ret
  exact ⟨rfl,hbl⟩
 ·have he2:(ao != bo)=true:=by simp [he]
  rw [if_neg he]
  clear he
  go_wp2
  go_ret
  exact ⟨rfl,hbl⟩
end Go.Proofs.YtaoefccgdfcchaaGreat.qk
