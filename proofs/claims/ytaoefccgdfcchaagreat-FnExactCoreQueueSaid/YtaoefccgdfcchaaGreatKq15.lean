/- QuEq, SuEq, RouteEq. -/
import Derived.Test.YtaoefccgdfcchaaGreatKq08
import Derived.Test.YtaoefccgdfcchaaGreatKq09
import Derived.Test.YtaoefccgdfcchaaGreatKq12
import Derived.Test.YtaoefccgdfcchaaGreatKq01
set_option maxRecDepth 100000
set_option maxHeartbeats 8000000
set_option linter.unusedVariables false
namespace Go.Proofs.YtaoefccgdfcchaaGreat.qu
open ChangeShapes WideShapes ChangeAt RowKit fl
theorem eq_all (l l':List E) (a a':Option Addr) (ca ca':Nat) (w:World) (hl:l.length <= maxLen) (hx:∀ e ∈ l,e.rs.length <= maxLen/\e.hs.length <= maxLen) (hll:l'.length=l.length) (hm:∀ (k:Nat) (r s:E),l[k]?=some r->l'[k]?=some s->same r s) (ha:V w w.heap.size a l) (hb:V w w.heap.size a' l') :
  Calls Tryz.prog 29 #[.slice a l.length ca,.slice a' l.length ca'] w fun e w'=>e=.returned (.bool true)/\Below w.heap.size w w':=by
 have hl':=hl
 unfold maxLen at hl'
 have nilw:∀ a a':Option Addr,Calls Tryz.prog 29 #[.slice a 0 ca,.slice a' 0 ca'] w fun e w'=>e=.returned (.bool true)/\Below w.heap.size w w':=fun a a'=>by
  go_enter Tryz.func29,Tryz.ntmps29
  go_wp2
  refine wp_loop_rounds 1 ?_
  rw [rounds_succ]
  go_wp2
  go_ret
  exact ⟨rfl,Below.refl _ _⟩
 have HVA:Hid (∀ r ∈ l,Row flM.c 5 w w.heap.size r.ra r.rs/\Row flH.c 7 w w.heap.size r.ha r.hs):=ha.2
 have HVB:Hid (∀ r ∈ l',Row flM.c 5 w w.heap.size r.ra r.rs/\Row flH.c 7 w w.heap.size r.ha r.hs):=hb.2
 rcases ha.1 with rfl | ⟨b,off,rfl,hlt,hc⟩
 ·exact nilw a a'
 rcases hb.1 with rfl | ⟨b',off_,rfl,hlt',hc'⟩
 ·simp at hll
  rw [show l.length=0 by omega]
  exact nilw _ _
 ·have HC:Hid (∀ (i:Nat) (e:E),l[i]?=some e->∀ (j:Nat) (v:Value),(c e)[j]?=some v->w.cell? ⟨b,off+i*4+j,none⟩=some v):=hc
  have HD:Hid (∀ (i:Nat) (e:E),l'[i]?=some e->∀ (j:Nat) (v:Value),(c e)[j]?=some v->w.cell? ⟨b',off_+i*4+j,none⟩=some v):=hc'
  have HX:Hid (∀ e ∈ l,e.rs.length <= maxLen/\e.hs.length <= maxLen):=hx
  have HM:Hid (∀ (k:Nat) (r s:E),l[k]?=some r->l'[k]?=some s->same r s):=hm
  have HLL:Hid (l'.length=l.length):=hll
  clear hc hc' nilw hx ha hb hm hll
  go_enter Tryz.func29,Tryz.ntmps29
  go_wp2
  go_loopw [5] (fun x wr=>∃ k:Nat,k <= l.length/\x=.int .i64 k/\Below w.heap.size w wr) (fun x _=>l.length - (intOf x).toNat)
  case atStart=>exact ⟨0,Nat.zero_le _,rfl,Below.refl _ _⟩
  case round =>
   obtain ⟨k,hk,rfl,hbel⟩:=hrel
   have hbs:=hbel.size
   by_cases hkl:k < l.length
   ·have hkl':k < l'.length:=by have:=HLL.out; omega
    have HG:Hid (l[k]?=some l[k]):=List.getElem?_eq_getElem hkl
    have HG':Hid (l'[k]?=some l'[k]):=List.getElem?_eq_getElem hkl'
    have hxs:=HX.out l[k] (List.getElem_mem hkl)
    have hrow:=HVA.out l[k] (List.getElem_mem hkl)
    have hrow':=HVB.out l'[k] (List.getElem_mem hkl')
    have hsm:=HM.out k _ _ HG.out HG'.out
    obtain ⟨⟨nm,nx,ra,rc,rs,ha,hc,hs⟩,he⟩:∃ e,l[k]=e:=⟨_,rfl⟩
    obtain ⟨⟨nm',nx',ua,uc,rs',va,vc,hs'⟩,he'⟩:∃ e,l'[k]=e:=⟨_,rfl⟩
    rw [he] at HG hxs hrow hsm
    rw [he'] at HG' hrow' hsm
    obtain ⟨q0,q1,q2,q3⟩:=hsm
    simp only at q0 q1 q2 q3
    subst q0 q1 q2 q3
    have c0:wr.cell? ⟨b,off+k*4,none⟩=some (.string nm):=(hbel.cell (p:=⟨b,off+k*4,none⟩) hlt).trans (by have:=HC.out k _ HG.out 0 _ rfl; simpa using this)
    have c1:wr.cell? ⟨b,off+k*4+1,none⟩=some (.int .i64 nx):=(hbel.cell (p:=⟨b,off+k*4+1,none⟩) hlt).trans (by have:=HC.out k _ HG.out 1 _ rfl; simpa using this)
    have c2:wr.cell? ⟨b,off+k*4+2,none⟩=some (.slice ra rs.length rc):=(hbel.cell (p:=⟨b,off+k*4+2,none⟩) hlt).trans (by have:=HC.out k _ HG.out 2 _ rfl; simpa using this)
    have c3:wr.cell? ⟨b,off+k*4+3,none⟩=some (.slice ha hs.length hc):=(hbel.cell (p:=⟨b,off+k*4+3,none⟩) hlt).trans (by have:=HC.out k _ HG.out 3 _ rfl; simpa using this)
    have d0:wr.cell? ⟨b',off_+k*4,none⟩=some (.string nm):=(hbel.cell (p:=⟨b',off_+k*4,none⟩) hlt').trans (by have:=HD.out k _ HG'.out 0 _ rfl; simpa using this)
    have d1:wr.cell? ⟨b',off_+k*4+1,none⟩=some (.int .i64 nx):=(hbel.cell (p:=⟨b',off_+k*4+1,none⟩) hlt').trans (by have:=HD.out k _ HG'.out 1 _ rfl; simpa using this)
    have d2:wr.cell? ⟨b',off_+k*4+2,none⟩=some (.slice ua rs.length uc):=(hbel.cell (p:=⟨b',off_+k*4+2,none⟩) hlt').trans (by have:=HD.out k _ HG'.out 2 _ rfl; simpa using this)
    have d3:wr.cell? ⟨b',off_+k*4+3,none⟩=some (.slice va hs.length vc):=(hbel.cell (p:=⟨b',off_+k*4+3,none⟩) hlt').trans (by have:=HD.out k _ HG'.out 3 _ rfl; simpa using this)
    have hone:=ql.eq_queue nm nx rs hs ra ua ha va rc uc hc vc wr.drew hxs.1 hxs.2 ((hrow.1).inn hbel.drew) ((hrow'.1).inn hbel.drew) ((hrow.2).inn hbel.drew) ((hrow'.2).inn hbel.drew)
    clear he he' hrow hrow' hxs
    go_wp2
    go_region_with (go_at_call 70; refine hone.mono ?_; rintro e w1 ⟨rfl,hb1⟩)
    all_goals
     have hb2:Below w.heap.size w w1:=hbel.drew.trans (hb1.mono (by show w.heap.size <= wr.drew.heap.size; exact hbs))
     clear hone
     go_wp2
     go_roundw
     case rel=>exact ⟨k+1,by omega,by go_num,hb2⟩
     case measure=>simp [intOf]; omega
   ·obtain rfl:k=l.length:=by omega
    go_wp2
    go_ret
    exact ⟨rfl,hbel⟩
end Go.Proofs.YtaoefccgdfcchaaGreat.qu
namespace Go.Proofs.YtaoefccgdfcchaaGreat.su
open ChangeShapes WideShapes ChangeAt RowKit fl
theorem eq_all (l l':List E) (a a':Option Addr) (ca ca':Nat) (w:World) (hl:l.length <= maxLen) (hx:∀ e ∈ l,e.rs.length <= maxLen/\e.hs.length <= maxLen) (hll:l'.length=l.length) (hm:∀ (k:Nat) (r s:E),l[k]?=some r->l'[k]?=some s->same r s) (ha:V w w.heap.size a l) (hb:V w w.heap.size a' l') :
  Calls Tryz.prog 30 #[.slice a l.length ca,.slice a' l.length ca'] w fun e w'=>e=.returned (.bool true)/\Below w.heap.size w w':=by
 have hl':=hl
 unfold maxLen at hl'
 have nilw:∀ a a':Option Addr,Calls Tryz.prog 30 #[.slice a 0 ca,.slice a' 0 ca'] w fun e w'=>e=.returned (.bool true)/\Below w.heap.size w w':=fun a a'=>by
  go_enter Tryz.func30,Tryz.ntmps30
  go_wp2
  refine wp_loop_rounds 1 ?_
  rw [rounds_succ]
  go_wp2
  go_ret
  exact ⟨rfl,Below.refl _ _⟩
 have HVA:Hid (∀ r ∈ l,Row flY.c 3 w w.heap.size r.ra r.rs/\Row flK.c 2 w w.heap.size r.ha r.hs):=ha.2
 have HVB:Hid (∀ r ∈ l',Row flY.c 3 w w.heap.size r.ra r.rs/\Row flK.c 2 w w.heap.size r.ha r.hs):=hb.2
 rcases ha.1 with rfl | ⟨b,off,rfl,hlt,hc⟩
 ·exact nilw a a'
 rcases hb.1 with rfl | ⟨b',off_,rfl,hlt',hc'⟩
 ·simp at hll
  rw [show l.length=0 by omega]
  exact nilw _ _
 ·have HC:Hid (∀ (i:Nat) (e:E),l[i]?=some e->∀ (j:Nat) (v:Value),(c e)[j]?=some v->w.cell? ⟨b,off+i*5+j,none⟩=some v):=hc
  have HD:Hid (∀ (i:Nat) (e:E),l'[i]?=some e->∀ (j:Nat) (v:Value),(c e)[j]?=some v->w.cell? ⟨b',off_+i*5+j,none⟩=some v):=hc'
  have HX:Hid (∀ e ∈ l,e.rs.length <= maxLen/\e.hs.length <= maxLen):=hx
  have HM:Hid (∀ (k:Nat) (r s:E),l[k]?=some r->l'[k]?=some s->same r s):=hm
  have HLL:Hid (l'.length=l.length):=hll
  clear hc hc' nilw hx ha hb hm hll
  go_enter Tryz.func30,Tryz.ntmps30
  go_wp2
  go_loopw [5] (fun x wr=>∃ k:Nat,k <= l.length/\x=.int .i64 k/\Below w.heap.size w wr) (fun x _=>l.length - (intOf x).toNat)
  case atStart=>exact ⟨0,Nat.zero_le _,rfl,Below.refl _ _⟩
  case round =>
   obtain ⟨k,hk,rfl,hbel⟩:=hrel
   have hbs:=hbel.size
   by_cases hkl:k < l.length
   ·have hkl':k < l'.length:=by have:=HLL.out; omega
    have HG:Hid (l[k]?=some l[k]):=List.getElem?_eq_getElem hkl
    have HG':Hid (l'[k]?=some l'[k]):=List.getElem?_eq_getElem hkl'
    have hxs:=HX.out l[k] (List.getElem_mem hkl)
    have hrow:=HVA.out l[k] (List.getElem_mem hkl)
    have hrow':=HVB.out l'[k] (List.getElem_mem hkl')
    have hsm:=HM.out k _ _ HG.out HG'.out
    obtain ⟨⟨nm,lo,nx,ra,rc,rs,ha,hc,hs⟩,he⟩:∃ e,l[k]=e:=⟨_,rfl⟩
    obtain ⟨⟨nm',lo',nx',ua,uc,rs',va,vc,hs'⟩,he'⟩:∃ e,l'[k]=e:=⟨_,rfl⟩
    rw [he] at HG hxs hrow hsm
    rw [he'] at HG' hrow' hsm
    obtain ⟨q0,q1,q2,q3,q4⟩:=hsm
    simp only at q0 q1 q2 q3 q4
    subst q0 q1 q2 q3 q4
    have c0:wr.cell? ⟨b,off+k*5,none⟩=some (.string nm):=(hbel.cell (p:=⟨b,off+k*5,none⟩) hlt).trans (by have:=HC.out k _ HG.out 0 _ rfl; simpa using this)
    have c1:wr.cell? ⟨b,off+k*5+1,none⟩=some (.int .i64 lo):=(hbel.cell (p:=⟨b,off+k*5+1,none⟩) hlt).trans (by have:=HC.out k _ HG.out 1 _ rfl; simpa using this)
    have c2:wr.cell? ⟨b,off+k*5+2,none⟩=some (.int .i64 nx):=(hbel.cell (p:=⟨b,off+k*5+2,none⟩) hlt).trans (by have:=HC.out k _ HG.out 2 _ rfl; simpa using this)
    have c3:wr.cell? ⟨b,off+k*5+3,none⟩=some (.slice ra rs.length rc):=(hbel.cell (p:=⟨b,off+k*5+3,none⟩) hlt).trans (by have:=HC.out k _ HG.out 3 _ rfl; simpa using this)
    have c4:wr.cell? ⟨b,off+k*5+4,none⟩=some (.slice ha hs.length hc):=(hbel.cell (p:=⟨b,off+k*5+4,none⟩) hlt).trans (by have:=HC.out k _ HG.out 4 _ rfl; simpa using this)
    have d0:wr.cell? ⟨b',off_+k*5,none⟩=some (.string nm):=(hbel.cell (p:=⟨b',off_+k*5,none⟩) hlt').trans (by have:=HD.out k _ HG'.out 0 _ rfl; simpa using this)
    have d1:wr.cell? ⟨b',off_+k*5+1,none⟩=some (.int .i64 lo):=(hbel.cell (p:=⟨b',off_+k*5+1,none⟩) hlt').trans (by have:=HD.out k _ HG'.out 1 _ rfl; simpa using this)
    have d2:wr.cell? ⟨b',off_+k*5+2,none⟩=some (.int .i64 nx):=(hbel.cell (p:=⟨b',off_+k*5+2,none⟩) hlt').trans (by have:=HD.out k _ HG'.out 2 _ rfl; simpa using this)
    have d3:wr.cell? ⟨b',off_+k*5+3,none⟩=some (.slice ua rs.length uc):=(hbel.cell (p:=⟨b',off_+k*5+3,none⟩) hlt').trans (by have:=HD.out k _ HG'.out 3 _ rfl; simpa using this)
    have d4:wr.cell? ⟨b',off_+k*5+4,none⟩=some (.slice va hs.length vc):=(hbel.cell (p:=⟨b',off_+k*5+4,none⟩) hlt').trans (by have:=HD.out k _ HG'.out 4 _ rfl; simpa using this)
    have hone:=sl.eq_stream nm lo nx rs hs ra ua ha va rc uc hc vc wr.drew hxs.1 hxs.2 ((hrow.1).inn hbel.drew) ((hrow'.1).inn hbel.drew) ((hrow.2).inn hbel.drew) ((hrow'.2).inn hbel.drew)
    clear he he' hrow hrow' hxs
    go_wp2
    go_region_with (go_at_call 71; refine hone.mono ?_; rintro e w1 ⟨rfl,hb1⟩)
    all_goals
     have hb2:Below w.heap.size w w1:=hbel.drew.trans (hb1.mono (by show w.heap.size <= wr.drew.heap.size; exact hbs))
     clear hone
     go_wp2
     go_roundw
     case rel=>exact ⟨k+1,by omega,by go_num,hb2⟩
     case measure=>simp [intOf]; omega
   ·obtain rfl:k=l.length:=by omega
    go_wp2
    go_ret
    exact ⟨rfl,hbel⟩
end Go.Proofs.YtaoefccgdfcchaaGreat.su
namespace Go.Proofs.YtaoefccgdfcchaaGreat.re
open ChangeShapes WideShapes ChangeAt RowKit rr ra rt fl
theorem RE.s {w:World} {g:Nat} {l:List Ex} (h:RE w g l):SE w w.heap.size (some ⟨g,0,none⟩) l:=.inr ⟨g,0,rfl,h.1,fun i e he=>by
 obtain ⟨h1,h2⟩:=h.2 i e he
 rw [Nat.zero_add]
 exact ⟨h1,h2⟩⟩
theorem RB.s {w:World} {g:Nat} {l:List Bi} (h:RB w g l):SB w w.heap.size (some ⟨g,0,none⟩) l:=.inr ⟨g,0,rfl,h.1,fun i e he=>by
 obtain ⟨h1,h2,h3⟩:=h.2 i e he
 rw [Nat.zero_add]
 exact ⟨h1,h2,h3⟩⟩
theorem eq_allE (l:List Ex) (a a':Option Addr) (ca ca':Nat) (w:World) (hl:l.length <= 1048576) (ha:SE w w.heap.size a l) (hb:SE w w.heap.size a' l) :
  Calls Tryz.prog 68 #[.slice a l.length ca,.slice a' l.length ca'] w fun e w'=>e=.returned (.bool true)/\Below w.heap.size w w':=by
 have nilw:∀ a a':Option Addr,Calls Tryz.prog 68 #[.slice a 0 ca,.slice a' 0 ca'] w fun e w'=>e=.returned (.bool true)/\Below w.heap.size w w':=fun a a'=>by
  go_enter Tryz.func68,Tryz.ntmps68
  go_wp2
  refine wp_loop_rounds 1 ?_
  rw [rounds_succ]
  go_wp2
  go_ret
  exact ⟨rfl,Below.refl _ _⟩
 rcases ha with rfl | ⟨b,off,rfl,hlt,hc⟩
 ·exact nilw a a'
 rcases hb with rfl | ⟨b',off_,rfl,hlt',hc'⟩
 ·exact nilw _ _
 ·have HA:Hid (∀ (i:Nat) (e:Ex),l[i]?=some e->w.cell? ⟨b,off+i*2,none⟩=some (.string e.n)/\w.cell? ⟨b,off+i*2+1,none⟩=some (.int .i64 e.k)):=hc
  have HB:Hid (∀ (i:Nat) (e:Ex),l[i]?=some e->w.cell? ⟨b',off_+i*2,none⟩=some (.string e.n)/\w.cell? ⟨b',off_+i*2+1,none⟩=some (.int .i64 e.k)):=hc'
  clear hc hc' nilw
  go_enter Tryz.func68,Tryz.ntmps68
  go_wp2
  go_loopw [5] (fun x wr=>∃ k:Nat,k <= l.length/\x=.int .i64 k/\Below w.heap.size w wr) (fun x _=>l.length - (intOf x).toNat)
  case atStart=>exact ⟨0,Nat.zero_le _,rfl,Below.refl _ _⟩
  case round =>
   obtain ⟨k,hk,rfl,hbel⟩:=hrel
   have hbs:=hbel.size
   by_cases hkl:k < l.length
   ·have HG:Hid (l[k]?=some l[k]):=List.getElem?_eq_getElem hkl
    obtain ⟨⟨fn,fk⟩,he⟩:∃ e,l[k]=e:=⟨_,rfl⟩
    rw [he] at HG
    obtain ⟨x0,x1⟩:=HA.out k _ HG.out
    have x0:wr.cell? ⟨b,off+k*2,none⟩=some (.string fn):=(hbel.cell (p:=⟨b,off+k*2,none⟩) hlt).trans x0
    have x1:wr.cell? ⟨b,off+k*2+1,none⟩=some (.int .i64 fk):=(hbel.cell (p:=⟨b,off+k*2+1,none⟩) hlt).trans x1
    obtain ⟨y0,y1⟩:=HB.out k _ HG.out
    have y0:wr.cell? ⟨b',off_+k*2,none⟩=some (.string fn):=(hbel.cell (p:=⟨b',off_+k*2,none⟩) hlt').trans y0
    have y1:wr.cell? ⟨b',off_+k*2+1,none⟩=some (.int .i64 fk):=(hbel.cell (p:=⟨b',off_+k*2+1,none⟩) hlt').trans y1
    have hone:=rl.eq_oneE ⟨fn,fk⟩ wr.drew
    have i2:(k:Int) < (l.length:Int):=by omega
    clear he
    go_wp2
    go_region_with (go_at_call 128; refine hone.mono ?_; rintro e w1 ⟨rfl,hb1⟩)
    all_goals go_wp2
    all_goals go_roundw
    all_goals first | exact ⟨k+1,by omega,by go_num,hbel.drew.trans (hb1.mono hbs)⟩ | (simp [intOf]; omega)
   ·obtain rfl:k=l.length:=by omega
    go_wp2
    go_ret
    exact ⟨rfl,hbel⟩
theorem eq_allB (l:List Bi) (a a':Option Addr) (ca ca':Nat) (w:World) (hl:l.length <= 1048576) (ha:SB w w.heap.size a l) (hb:SB w w.heap.size a' l) :
  Calls Tryz.prog 69 #[.slice a l.length ca,.slice a' l.length ca'] w fun e w'=>e=.returned (.bool true)/\Below w.heap.size w w':=by
 have nilw:∀ a a':Option Addr,Calls Tryz.prog 69 #[.slice a 0 ca,.slice a' 0 ca'] w fun e w'=>e=.returned (.bool true)/\Below w.heap.size w w':=fun a a'=>by
  go_enter Tryz.func69,Tryz.ntmps69
  go_wp2
  refine wp_loop_rounds 1 ?_
  rw [rounds_succ]
  go_wp2
  go_ret
  exact ⟨rfl,Below.refl _ _⟩
 rcases ha with rfl | ⟨b,off,rfl,hlt,hc⟩
 ·exact nilw a a'
 rcases hb with rfl | ⟨b',off_,rfl,hlt',hc'⟩
 ·exact nilw _ _
 ·have HA:Hid (∀ (i:Nat) (e:Bi),l[i]?=some e->w.cell? ⟨b,off+i*3,none⟩=some (.string e.x)/\w.cell? ⟨b,off+i*3+1,none⟩=some (.string e.k)/\w.cell? ⟨b,off+i*3+2,none⟩=some (.string e.q)):=hc
  have HB:Hid (∀ (i:Nat) (e:Bi),l[i]?=some e->w.cell? ⟨b',off_+i*3,none⟩=some (.string e.x)/\w.cell? ⟨b',off_+i*3+1,none⟩=some (.string e.k)/\w.cell? ⟨b',off_+i*3+2,none⟩=some (.string e.q)):=hc'
  clear hc hc' nilw
  go_enter Tryz.func69,Tryz.ntmps69
  go_wp2
  go_loopw [5] (fun x wr=>∃ k:Nat,k <= l.length/\x=.int .i64 k/\Below w.heap.size w wr) (fun x _=>l.length - (intOf x).toNat)
  case atStart=>exact ⟨0,Nat.zero_le _,rfl,Below.refl _ _⟩
  case round =>
   obtain ⟨k,hk,rfl,hbel⟩:=hrel
   have hbs:=hbel.size
   by_cases hkl:k < l.length
   ·have HG:Hid (l[k]?=some l[k]):=List.getElem?_eq_getElem hkl
    obtain ⟨⟨fx,fk,fq⟩,he⟩:∃ e,l[k]=e:=⟨_,rfl⟩
    rw [he] at HG
    obtain ⟨x0,x1,x2⟩:=HA.out k _ HG.out
    have x0:wr.cell? ⟨b,off+k*3,none⟩=some (.string fx):=(hbel.cell (p:=⟨b,off+k*3,none⟩) hlt).trans x0
    have x1:wr.cell? ⟨b,off+k*3+1,none⟩=some (.string fk):=(hbel.cell (p:=⟨b,off+k*3+1,none⟩) hlt).trans x1
    have x2:wr.cell? ⟨b,off+k*3+2,none⟩=some (.string fq):=(hbel.cell (p:=⟨b,off+k*3+2,none⟩) hlt).trans x2
    obtain ⟨y0,y1,y2⟩:=HB.out k _ HG.out
    have y0:wr.cell? ⟨b',off_+k*3,none⟩=some (.string fx):=(hbel.cell (p:=⟨b',off_+k*3,none⟩) hlt').trans y0
    have y1:wr.cell? ⟨b',off_+k*3+1,none⟩=some (.string fk):=(hbel.cell (p:=⟨b',off_+k*3+1,none⟩) hlt').trans y1
    have y2:wr.cell? ⟨b',off_+k*3+2,none⟩=some (.string fq):=(hbel.cell (p:=⟨b',off_+k*3+2,none⟩) hlt').trans y2
    have hone:=rl.eq_oneB ⟨fx,fk,fq⟩ wr.drew
    have i2:(k:Int) < (l.length:Int):=by omega
    clear he
    go_wp2
    go_region_with (go_at_call 129; refine hone.mono ?_; rintro e w1 ⟨rfl,hb1⟩)
    all_goals go_wp2
    all_goals go_roundw
    all_goals first | exact ⟨k+1,by omega,by go_num,hbel.drew.trans (hb1.mono hbs)⟩ | (simp [intOf]; omega)
   ·obtain rfl:k=l.length:=by omega
    go_wp2
    go_ret
    exact ⟨rfl,hbel⟩
theorem eq_routes (es:List Ex) (bs:List Bi) (ea ea' ba ba':Option Addr) (ce ce' cb cb':Nat) (w:World) (hel:es.length <= 1048576) (hbl:bs.length <= 1048576) (h1:SE w w.heap.size ea es) (h2:SE w w.heap.size ea' es) (h3:SB w w.heap.size ba bs) (h4:SB w w.heap.size ba' bs) :
  Calls Tryz.prog 28 #[.agg #[.slice ea es.length ce,.slice ba bs.length cb],.agg #[.slice ea' es.length ce',.slice ba' bs.length cb']] w fun e w'=>e=.returned (.bool true)/\Below w.heap.size w w':=by
 obtain ⟨W,hW,hb,hA,hB,_⟩:=fl.bx2 w #[.slice ea es.length ce,.slice ba bs.length cb] #[.slice ea' es.length ce',.slice ba' bs.length cb'] 34 34
 have he:=eq_allE es ea ea' ce ce' W hel (rl.SE.inn h1 hb) (rl.SE.inn h2 hb)
 have HB3:Hid (SB W W.heap.size ba bs):=rl.SB.inn h3 hb
 have HB4:Hid (SB W W.heap.size ba' bs):=rl.SB.inn h4 hb
 have x0:W.cell? ⟨w.heap.size,0,none⟩=some (.slice ea es.length ce):=bcell hA rfl
 have y0:W.cell? ⟨w.heap.size+1,0,none⟩=some (.slice ea' es.length ce'):=bcell hB rfl
 have HA:Hid (W.heap[w.heap.size]?=some (.cells #[.slice ea es.length ce,.slice ba bs.length cb] 34 (0,0))):=hA
 have HBB:Hid (W.heap[w.heap.size+1]?=some (.cells #[.slice ea' es.length ce',.slice ba' bs.length cb'] 34 (0,0))):=hB
 have la:=(Array.getElem?_eq_some_iff.1 hA).1
 have lb:=(Array.getElem?_eq_some_iff.1 hB).1
 clear h1 h2 h3 h4 hA hB
 go_enter Tryz.func28,Tryz.ntmps28
 go_wp2_with (go_at_call 68; fail)
 refine he.mono ?_
 rintro e w1 ⟨rfl,hb1⟩
 have x1:w1.cell? ⟨w.heap.size,1,none⟩=some (.slice ba bs.length cb):=bcell (bstay HA.out hb1 la) rfl
 have y1:w1.cell? ⟨w.heap.size+1,1,none⟩=some (.slice ba' bs.length cb'):=bcell (bstay HBB.out hb1 lb) rfl
 have hq:=eq_allB bs ba ba' cb cb' w1 hbl (rl.SB.inn HB3.out hb1) (rl.SB.inn HB4.out hb1)
 clear he x0 y0 hW
 go_wp2_with (go_at_call 69; refine hq.mono ?_; rintro e w2 ⟨rfl,hb2⟩)
 go_ret
 exact ⟨rfl,hb.trans ((hb1.trans (hb2.mono hb1.size)).mono hb.size)⟩
end Go.Proofs.YtaoefccgdfcchaaGreat.re
