/- RouteSpec, MarkBase, FlMark. -/
import Derived.Test.YtaoefccgdfcchaaGreatKq05
import Derived.Test.YtaoefccgdfcchaaGreatKq01
set_option maxRecDepth 100000
set_option maxHeartbeats 8000000
set_option linter.unusedVariables false
namespace Go.Proofs.YtaoefccgdfcchaaGreat.rk
open ChangeShapes WideShapes ChangeAt RowKit rc rr rf rs ro
def GoodE (es:List Ex) (k:Nat):Prop:=(∀ (i:Nat) e,i < k->es[i]?=some e->exOk e=true)/\UpE es k
theorem good_next {es:List Ex} {k:Nat} {e:Ex} (h:GoodE es k) (he:es[k]?=some e) (h1:exOk e=true) (h2:∀ p,k ≠ 0->es[k - 1]?=some p->lt p.n e.n=true):GoodE es (k+1):=by
 refine ⟨fun i f hi hf=>?_,fun i a b hi ha hb=>?_⟩
 ·by_cases ei:i=k
  ·subst ei; rw [he] at hf; cases hf; exact h1
  ·exact h.1 i f (by omega) hf
 ·by_cases ei:i+1=k
  ·subst ei
   rw [he] at hb
   cases hb
   exact cmp_neg.2 (h2 a (by omega) (by simpa using ha))
  ·exact h.2 i a b (by omega) ha hb
theorem bad_ex {es:List Ex} {bs:List Bi} {k:Nat} {e:Ex} (he:es[k]?=some e) (h1:exOk e=false):¬ OkR es bs:=fun h=>by have:=h.eo k e he; rw [h1] at this; cases this
theorem bad_up {es:List Ex} {bs:List Bi} {k:Nat} {p e:Ex} (hp:es[k]?=some p) (he:es[k+1]?=some e) (h1:lt p.n e.n=false):¬ OkR es bs:=fun h=>by
 have:=cmp_neg.1 (h.eu k p e (List.getElem?_eq_some_iff.1 he).1 hp he)
 rw [h1] at this
 cases this
def GoodB (es:List Ex) (bs:List Bi) (k:Nat):Prop:=(∀ (i:Nat) b,i < k->bs[i]?=some b->0 <= kindOf es b.x/\ky.good b.k=true/\nm.good b.q=true)/\UpB bs k
theorem goodB_next {es:List Ex} {bs:List Bi} {k:Nat} {e:Bi} (h:GoodB es bs k) (he:bs[k]?=some e) (h1:0 <= kindOf es e.x/\ky.good e.k=true/\nm.good e.q=true) (h2:∀ p,k ≠ 0->bs[k - 1]?=some p->before p e=true):GoodB es bs (k+1):=by
 refine ⟨fun i f hi hf=>?_,fun i a b hi ha hb=>?_⟩
 ·by_cases ei:i=k
  ·subst ei; rw [he] at hf; cases hf; exact h1
  ·exact h.1 i f (by omega) hf
 ·by_cases ei:i+1=k
  ·subst ei
   rw [he] at hb
   cases hb
   exact before_cmp.1 (h2 a (by omega) (by simpa using ha))
  ·exact h.2 i a b (by omega) ha hb
theorem name' (s:ByteArray) (hs:s.size <= 1048576) {w:World} (N:qi.Cls w):Calls Tryz.prog 91 #[.string s] N.x fun e w'=>e=.returned (.bool (nm.good s))/\qi.T w w' :=
 (nm.spec_name s N.x hs).mono fun e w' ⟨h1,h2⟩=>⟨h1,by rw [<- h2]; exact N.h⟩
theorem key' (s:ByteArray) (hs:s.size <= 1048576) {w:World} (N:qi.Cls w):Calls Tryz.prog 96 #[.string s] N.x fun e w'=>e=.returned (.bool (ky.good s))/\qi.T w w' :=
 (ky.spec_key s N.x hs).mono fun e w' ⟨h1,h2⟩=>⟨h1,by rw [<- h2]; exact N.h⟩
theorem in' (x a b:Int) {w:World} (N:qi.Cls w):Calls Tryz.prog 92 #[.int .i64 x,.int .i64 a,.int .i64 b] N.x fun e w'=>e=.returned (.bool (decide (a <= x/\x <= b)))/\qi.T w w' :=
 (ky.within x a b N.x).mono fun e w' ⟨h1,h2⟩=>⟨h1,by rw [<- h2]; exact N.h⟩
theorem spec_routes (es:List Ex) (bs:List Bi) (ge ce gb cb:Nat) (w:World) (hel:es.length <= 1048576) (hbl:bs.length <= 1048576) (hes:∀ e ∈ es,e.n.size <= 1048576) (hbs:∀ b ∈ bs,b.x.size <= 1048576/\b.k.size <= 1048576/\b.q.size <= 1048576) (hE:RE w ge es) (hB:RB w gb bs) :
  Calls Tryz.prog 46 #[.agg #[.slice (some ⟨ge,0,none⟩) es.length ce,.slice (some ⟨gb,0,none⟩) bs.length cb]] w fun r w'=>(∃ b:Bool,r=.returned (.bool b)/\(b=true ↔ OkR es bs))/\Below w.heap.size w w':=by
 have hb:Below w.heap.size w (w.alloc (.cells #[.slice (some ⟨ge,0,none⟩) es.length ce,.slice (some ⟨gb,0,none⟩) bs.length cb] 34)):=(Below.refl _ _).alloc (Nat.le_refl _) _
 have hRb:=heap_alloc_new w (.cells #[.slice (some ⟨ge,0,none⟩) es.length ce,.slice (some ⟨gb,0,none⟩) bs.length cb] 34)
 have HE:Hid (RE (w.alloc (.cells #[.slice (some ⟨ge,0,none⟩) es.length ce,.slice (some ⟨gb,0,none⟩) bs.length cb] 34)) ge es):=hE.below hb
 have HB:Hid (RB (w.alloc (.cells #[.slice (some ⟨ge,0,none⟩) es.length ce,.slice (some ⟨gb,0,none⟩) bs.length cb] 34)) gb bs):=hB.below hb
 have hlt:w.heap.size < (w.alloc (.cells #[.slice (some ⟨ge,0,none⟩) es.length ce,.slice (some ⟨gb,0,none⟩) bs.length cb] 34)).heap.size:=by simp
 obtain ⟨W,hW⟩:∃ W,w.alloc (.cells #[.slice (some ⟨ge,0,none⟩) es.length ce,.slice (some ⟨gb,0,none⟩) bs.length cb] 34)=W:=⟨_,rfl⟩
 rw [hW] at hb hRb HE HB hlt
 have HRb:Hid (W.heap[w.heap.size]?=some (.cells #[.slice (some ⟨ge,0,none⟩) es.length ce,.slice (some ⟨gb,0,none⟩) bs.length cb] 34 (0,0))):=hRb
 have HES:Hid (∀ e ∈ es,e.n.size <= 1048576):=hes
 have HBS:Hid (∀ b ∈ bs,b.x.size <= 1048576/\b.k.size <= 1048576/\b.q.size <= 1048576):=hbs
 have box:∀ wr,Below W.heap.size W wr->wr.cell? ⟨w.heap.size,0,none⟩=some (.slice (some ⟨ge,0,none⟩) es.length ce)/\wr.cell? ⟨w.heap.size,1,none⟩=some (.slice (some ⟨gb,0,none⟩) bs.length cb):=fun wr h=>by
  have h1:=(h.block w.heap.size hlt).trans HRb.out
  exact ⟨by simp [World.cell?,h1],by simp [World.cell?,h1]⟩
 have BOX:Hid (∀ wr,Below W.heap.size W wr->wr.cell? ⟨w.heap.size,0,none⟩=some (.slice (some ⟨ge,0,none⟩) es.length ce)/\wr.cell? ⟨w.heap.size,1,none⟩=some (.slice (some ⟨gb,0,none⟩) bs.length cb)):=box
 clear hE hB hRb hes hbs box
 go_enter Tryz.func46,Tryz.ntmps46
 go_wp2
 clear hW
 go_loopw [3,4] (fun v _ wr=>∃ k:Nat,k <= es.length/\v=.int .i64 k/\Hid (GoodE es k)/\Below W.heap.size W wr) (fun v _ _=>es.length - (intOf v).toNat)
 case atStart=>exact ⟨0,Nat.zero_le _,rfl,⟨fun i e h=>by omega,fun i a b h=>by omega⟩,Below.refl _ _⟩
 case round =>
  obtain ⟨k,hk,rfl,hgood,hbel⟩:=hrel
  have hbsz:=hbel.size
  obtain ⟨c0,c1⟩:=BOX.out wr hbel
  by_cases hkl:k < es.length
  ·have g0:es[k]?=some es[k]:=List.getElem?_eq_getElem hkl
   have hsz:=HES.out es[k] (List.getElem_mem hkl)
   obtain ⟨a0,a1⟩:=(HE.out.below hbel).2 k _ g0
   have HG:Hid (es[k]?=some es[k]):=g0
   obtain ⟨⟨en,ek⟩,he⟩:∃ e,es[k]=e:=⟨_,rfl⟩
   rw [he] at a0 a1 HG hsz
   have hbX:Below W.heap.size W (wr.alloc (.cells #[.string en,.int .i64 ek] 137)):=hbel.alloc hbsz _
   have hx1:=heap_alloc_new wr (.cells #[.string en,.int .i64 ek] 137)
   have hxl:wr.heap.size < (wr.alloc (.cells #[.string en,.int .i64 ek] 137)).heap.size:=by simp
   obtain ⟨X1,hX1⟩:∃ X1,wr.alloc (.cells #[.string en,.int .i64 ek] 137)=X1:=⟨_,rfl⟩
   rw [hX1] at hbX hx1 hxl
   have x0:∀ N:qi.Cls X1,N.x.cell? ⟨wr.heap.size,0,none⟩=some (.string en):=fun N=>by
    have h1:=(Below.block N.h wr.heap.size hxl).trans hx1
    simp [World.cell?,h1]
   have x1:∀ N:qi.Cls X1,N.x.cell? ⟨wr.heap.size,1,none⟩=some (.int .i64 ek):=fun N=>by
    have h1:=(Below.block N.h wr.heap.size hxl).trans hx1
    simp [World.cell?,h1]
   have r0:∀ N:qi.Cls X1,N.x.cell? ⟨w.heap.size,0,none⟩=some (.slice (some ⟨ge,0,none⟩) es.length ce):=fun N=>(BOX.out N.x (hbX.trans (Below.mono N.h hbX.size))).1
   have kn:=fun N:qi.Cls X1=>name' en hsz N
   have kin:=fun N:qi.Cls X1=>in' ek 0 2 N
   clear g0 he hx1
   have p0:True:=trivial
   cases hgn:nm.good en with
   | false =>
    have hbad:¬ OkR es bs:=bad_ex HG.out (by simp [exOk,hgn])
    simp only [hgn] at kn
    go_wp2
    refine qi.region_in X1 (qi.T.refl X1) (by kernel_rfl) (by kernel_rfl) ?_
    repeat (go_big_quiet_step (first | (go_at_call 91; refine (kn _).mono ?_; rintro e wx ⟨rfl,hTx⟩; exact ⟨rfl,⟨wx,hTx⟩,rfl⟩) | (go_at_call 92; refine (kin _).mono ?_; rintro e wx ⟨rfl,hTx⟩; exact ⟨rfl,⟨wx,hTx⟩,rfl⟩)))
    refine wpQuiet_nil ?_
    rintro _ ⟨N,rfl⟩
    have hN:=N.h
    generalize N.x=wN at hN ⊢
    clear N kn kin x0 x1 p0 r0
    have hbN:Below W.heap.size W wN:=hbX.trans (Below.mono hN hbX.size)
    go_wp2
    go_ret
    exact ⟨⟨false,rfl,by simp; exact hbad⟩,hb.trans (hbN.mono hb.size)⟩
   | true =>
    simp only [hgn] at kn
    by_cases hkd:0 <= ek/\ek <= 2
    ·have hdk:decide ((0:Int) <= ek/\ek <= 2)=true:=by simp; exact hkd
     simp only [hdk] at kin
     have hexo:exOk ⟨en,ek⟩=true:=by simp [exOk,hgn]; exact hkd
     clear hdk
     by_cases hk0:k=0
     ·subst hk0
      have hnext:Hid (GoodE es (0+1)):=good_next hgood.out HG.out hexo (fun p h=>absurd rfl h)
      go_wp2
      refine qi.region_in X1 (qi.T.refl X1) (by kernel_rfl) (by kernel_rfl) ?_
      repeat (go_big_quiet_step (first | (go_at_call 91; refine (kn _).mono ?_; rintro e wx ⟨rfl,hTx⟩; exact ⟨rfl,⟨wx,hTx⟩,rfl⟩) | (go_at_call 92; refine (kin _).mono ?_; rintro e wx ⟨rfl,hTx⟩; exact ⟨rfl,⟨wx,hTx⟩,rfl⟩)))
      refine wpQuiet_nil ?_
      rintro _ ⟨N,rfl⟩
      have hN:=N.h
      generalize N.x=wN at hN ⊢
      clear N kn kin x0 x1 p0 r0
      have hbN:Below W.heap.size W wN:=hbX.trans (Below.mono hN hbX.size)
      go_wp2
      go_roundw
      case rel=>exact ⟨0+1,by omega,by go_num,hnext,hbN⟩
      case measure=>simp [intOf]; omega
     ·obtain ⟨m,rfl⟩:∃ m,k=m+1:=⟨k - 1,by omega⟩
      have g1:es[m]?=some es[m]:=List.getElem?_eq_getElem (by omega)
      obtain ⟨d0,d1⟩:=(HE.out.below hbX).2 m _ g1
      have HG1:Hid (es[m]?=some es[m]):=g1
      obtain ⟨⟨pn,pk⟩,hpe⟩:∃ e,es[m]=e:=⟨_,rfl⟩
      rw [hpe] at d0 d1 HG1
      have hgeX:=(HE.out.below hbX).1
      have P0:∀ N:qi.Cls X1,N.x.cell? ⟨ge,m*2,none⟩=some (.string pn):=fun N=>(Below.cell N.h (p:=⟨ge,m*2,none⟩) hgeX).trans d0
      have i1:IntKind.i64.wrap (m:Int)=(m:Int):=by rw [IntKind.wrap_i64]; omega
      have i2:(m:Int) < (es.length:Int):=by omega
      clear g1 hpe d0 d1
      cases hq:(Op.bytesLess en.toList pn.toList || en.toList == pn.toList) with
      | true =>
       have hbad:¬ OkR es bs:=bad_up HG1.out HG.out (by
        cases h:lt pn en with
        | false=>rfl
        | true=>have h2:=above.2 h; have h3:(lt en pn || en.toList == pn.toList)=true:=hq; rw [h2] at h3; cases h3)
       go_wp2
       refine qi.region_in X1 (qi.T.refl X1) (by kernel_rfl) (by kernel_rfl) ?_
       repeat (go_big_quiet_step (first | (go_at_call 91; refine (kn _).mono ?_; rintro e wx ⟨rfl,hTx⟩; exact ⟨rfl,⟨wx,hTx⟩,rfl⟩) | (go_at_call 92; refine (kin _).mono ?_; rintro e wx ⟨rfl,hTx⟩; exact ⟨rfl,⟨wx,hTx⟩,rfl⟩)))
       refine wpQuiet_nil ?_
       rintro _ ⟨N,rfl⟩
       have hN:=N.h
       generalize N.x=wN at hN ⊢
       clear N kn kin x0 x1 p0 r0 P0
       have hbN:Below W.heap.size W wN:=hbX.trans (Below.mono hN hbX.size)
       go_wp2
       go_ret
       exact ⟨⟨false,rfl,by simp; exact hbad⟩,hb.trans (hbN.mono hb.size)⟩
      | false =>
       have hnext:Hid (GoodE es (m+1+1)):=good_next hgood.out HG.out hexo (fun p _ hp=>by
        have hp2:es[m]?=some p:=hp
        rw [HG1.out] at hp2
        cases hp2
        exact above.1 hq)
       go_wp2
       refine qi.region_in X1 (qi.T.refl X1) (by kernel_rfl) (by kernel_rfl) ?_
       repeat (go_big_quiet_step (first | (go_at_call 91; refine (kn _).mono ?_; rintro e wx ⟨rfl,hTx⟩; exact ⟨rfl,⟨wx,hTx⟩,rfl⟩) | (go_at_call 92; refine (kin _).mono ?_; rintro e wx ⟨rfl,hTx⟩; exact ⟨rfl,⟨wx,hTx⟩,rfl⟩)))
       refine wpQuiet_nil ?_
       rintro _ ⟨N,rfl⟩
       have hN:=N.h
       generalize N.x=wN at hN ⊢
       clear N kn kin x0 x1 p0 r0 P0
       have hbN:Below W.heap.size W wN:=hbX.trans (Below.mono hN hbX.size)
       go_wp2
       go_roundw
       case rel=>exact ⟨m+1+1,by omega,by go_num,hnext,hbN⟩
       case measure=>simp [intOf]; omega
    ·have hdk:decide ((0:Int) <= ek/\ek <= 2)=false:=by simp; omega
     have hbad:¬ OkR es bs:=bad_ex HG.out (by simp only [exOk,hdk,Bool.and_false])
     simp only [hdk] at kin
     clear hdk
     go_wp2
     refine qi.region_in X1 (qi.T.refl X1) (by kernel_rfl) (by kernel_rfl) ?_
     repeat (go_big_quiet_step (first | (go_at_call 91; refine (kn _).mono ?_; rintro e wx ⟨rfl,hTx⟩; exact ⟨rfl,⟨wx,hTx⟩,rfl⟩) | (go_at_call 92; refine (kin _).mono ?_; rintro e wx ⟨rfl,hTx⟩; exact ⟨rfl,⟨wx,hTx⟩,rfl⟩)))
     refine wpQuiet_nil ?_
     rintro _ ⟨N,rfl⟩
     have hN:=N.h
     generalize N.x=wN at hN ⊢
     clear N kn kin x0 x1 p0 r0
     have hbN:Below W.heap.size W wN:=hbX.trans (Below.mono hN hbX.size)
     go_wp2
     go_ret
     exact ⟨⟨false,rfl,by simp; exact hbad⟩,hb.trans (hbN.mono hb.size)⟩
  ·obtain rfl:k=es.length:=by omega
   have HGE:Hid (GoodE es es.length):=hgood
   clear hgood hk hkl
   go_wp2
   go_loopw [5,6] (fun v _ wq=>∃ k:Nat,k <= bs.length/\v=.int .i64 k/\Hid (GoodB es bs k)/\Below W.heap.size W wq) (fun v _ _=>bs.length - (intOf v).toNat)
   case atStart=>exact ⟨0,Nat.zero_le _,rfl,⟨fun i e h=>by omega,fun i a b h=>by omega⟩,hbel⟩
   case round =>
    clear hbel hbsz c0 c1
    obtain ⟨k,hk,rfl,hgood,hbel⟩:=hrel
    have hbsz:=hbel.size
    obtain ⟨c0,c1⟩:=BOX.out wr hbel
    by_cases hkl:k < bs.length
    ·have g0:bs[k]?=some bs[k]:=List.getElem?_eq_getElem hkl
     obtain ⟨z1,z2,z3⟩:=HBS.out bs[k] (List.getElem_mem hkl)
     obtain ⟨a0,a1,a2⟩:=(HB.out.below hbel).2 k _ g0
     have HG:Hid (bs[k]?=some bs[k]):=g0
     obtain ⟨⟨bx,bk,bq⟩,he⟩:∃ e,bs[k]=e:=⟨_,rfl⟩
     rw [he] at a0 a1 a2 HG z1 z2 z3
     have hbX:Below W.heap.size W (wr.alloc (.cells #[.string bx,.string bk,.string bq] 138)):=hbel.alloc hbsz _
     have hx1:=heap_alloc_new wr (.cells #[.string bx,.string bk,.string bq] 138)
     have hxl:wr.heap.size < (wr.alloc (.cells #[.string bx,.string bk,.string bq] 138)).heap.size:=by simp
     obtain ⟨X1,hX1⟩:∃ X1,wr.alloc (.cells #[.string bx,.string bk,.string bq] 138)=X1:=⟨_,rfl⟩
     rw [hX1] at hbX hx1 hxl
     have HX1:Hid (X1.heap[wr.heap.size]?=some (.cells #[.string bx,.string bk,.string bq] 138 (0,0))):=hx1
     have x0:∀ N:qi.Cls X1,N.x.cell? ⟨wr.heap.size,0,none⟩=some (.string bx):=fun N=>by
      have h1:=(Below.block N.h wr.heap.size hxl).trans HX1.out
      simp [World.cell?,h1]
     have x1:∀ N:qi.Cls X1,N.x.cell? ⟨wr.heap.size,1,none⟩=some (.string bk):=fun N=>by
      have h1:=(Below.block N.h wr.heap.size hxl).trans HX1.out
      simp [World.cell?,h1]
     have x2:∀ N:qi.Cls X1,N.x.cell? ⟨wr.heap.size,2,none⟩=some (.string bq):=fun N=>by
      have h1:=(Below.block N.h wr.heap.size hxl).trans HX1.out
      simp [World.cell?,h1]
     have r0:∀ N:qi.Cls X1,N.x.cell? ⟨w.heap.size,0,none⟩=some (.slice (some ⟨ge,0,none⟩) es.length ce):=fun N=>(BOX.out N.x (hbX.trans (Below.mono N.h hbX.size))).1
     have r1:∀ N:qi.Cls X1,N.x.cell? ⟨w.heap.size,1,none⟩=some (.slice (some ⟨gb,0,none⟩) bs.length cb):=fun N=>(BOX.out N.x (hbX.trans (Below.mono N.h hbX.size))).2
     have kk:∀ N:qi.Cls X1,Calls Tryz.prog 95 #[.agg #[.slice (some ⟨ge,0,none⟩) es.length ce,.slice (some ⟨gb,0,none⟩) bs.length cb],.string bx] N.x fun e w'=>e=.returned (.int .i64 (kindOf es bx))/\qi.T X1 w':=fun N=>(spec_kind es ge ce (some ⟨gb,0,none⟩) bs.length cb bx N.x hel (HE.out.below (hbX.trans (Below.mono N.h hbX.size)))).mono fun e w' ⟨h1,h2⟩=>⟨h1,N.h.next h2⟩
     have kq:=fun N:qi.Cls X1=>key' bk z2 N
     have kn:=fun N:qi.Cls X1=>name' bq z3 N
     clear g0 he hx1
     obtain ⟨kd,hkd⟩:∃ kd,kindOf es bx=kd:=⟨_,rfl⟩
     simp only [hkd] at kk
     have HKD:Hid (kindOf es bx=kd):=hkd
     clear hkd
     by_cases hneg:kd < 0
     ·have hdn:decide (kd < (0:Int))=true:=by simp; omega
      have hbad:¬ OkR es bs:=fun h=>by have h1:=(h.bo k _ HG.out).1; have h2:0 <= kindOf es bx:=h1; rw [HKD.out] at h2; omega
      go_wp2
      refine qi.region_in X1 (qi.T.refl X1) (by kernel_rfl) (by kernel_rfl) ?_
      repeat (go_big_quiet_step (first | (go_at_call 95; refine (kk _).mono ?_; rintro e wx ⟨rfl,hTx⟩; exact ⟨rfl,⟨wx,hTx⟩,rfl⟩) | (go_at_call 96; refine (kq _).mono ?_; rintro e wx ⟨rfl,hTx⟩; exact ⟨rfl,⟨wx,hTx⟩,rfl⟩) | (go_at_call 91; refine (kn _).mono ?_; rintro e wx ⟨rfl,hTx⟩; exact ⟨rfl,⟨wx,hTx⟩,rfl⟩)))
      refine wpQuiet_nil ?_
      rintro _ ⟨N,rfl⟩
      have hN:=N.h
      generalize N.x=wN at hN ⊢
      clear N kk kq kn x0 x1 x2 r0 r1
      have hbN:Below W.heap.size W wN:=hbX.trans (Below.mono hN hbX.size)
      go_wp2
      go_ret
      exact ⟨⟨false,rfl,by simp; exact hbad⟩,hb.trans (hbN.mono hb.size)⟩
     have hge0:(0:Int) <= kd:=by omega
     have hdn:decide (kd < (0:Int))=false:=by simp; omega
     cases hgk:ky.good bk with
     | false =>
      have hbad:¬ OkR es bs:=fun h=>by have h1:=(h.bo k _ HG.out).2.1; have h2:ky.good bk=true:=h1; rw [hgk] at h2; cases h2
      simp only [hgk] at kq
      go_wp2
      refine qi.region_in X1 (qi.T.refl X1) (by kernel_rfl) (by kernel_rfl) ?_
      repeat (go_big_quiet_step (first | (go_at_call 95; refine (kk _).mono ?_; rintro e wx ⟨rfl,hTx⟩; exact ⟨rfl,⟨wx,hTx⟩,rfl⟩) | (go_at_call 96; refine (kq _).mono ?_; rintro e wx ⟨rfl,hTx⟩; exact ⟨rfl,⟨wx,hTx⟩,rfl⟩) | (go_at_call 91; refine (kn _).mono ?_; rintro e wx ⟨rfl,hTx⟩; exact ⟨rfl,⟨wx,hTx⟩,rfl⟩)))
      refine wpQuiet_nil ?_
      rintro _ ⟨N,rfl⟩
      have hN:=N.h
      generalize N.x=wN at hN ⊢
      clear N kk kq kn x0 x1 x2 r0 r1
      have hbN:Below W.heap.size W wN:=hbX.trans (Below.mono hN hbX.size)
      go_wp2
      go_ret
      exact ⟨⟨false,rfl,by simp; exact hbad⟩,hb.trans (hbN.mono hb.size)⟩
     | true =>
     simp only [hgk] at kq
     cases hgq:nm.good bq with
     | false =>
      have hbad:¬ OkR es bs:=fun h=>by have h1:=(h.bo k _ HG.out).2.2; have h2:nm.good bq=true:=h1; rw [hgq] at h2; cases h2
      simp only [hgq] at kn
      go_wp2
      refine qi.region_in X1 (qi.T.refl X1) (by kernel_rfl) (by kernel_rfl) ?_
      repeat (go_big_quiet_step (first | (go_at_call 95; refine (kk _).mono ?_; rintro e wx ⟨rfl,hTx⟩; exact ⟨rfl,⟨wx,hTx⟩,rfl⟩) | (go_at_call 96; refine (kq _).mono ?_; rintro e wx ⟨rfl,hTx⟩; exact ⟨rfl,⟨wx,hTx⟩,rfl⟩) | (go_at_call 91; refine (kn _).mono ?_; rintro e wx ⟨rfl,hTx⟩; exact ⟨rfl,⟨wx,hTx⟩,rfl⟩)))
      refine wpQuiet_nil ?_
      rintro _ ⟨N,rfl⟩
      have hN:=N.h
      generalize N.x=wN at hN ⊢
      clear N kk kq kn x0 x1 x2 r0 r1
      have hbN:Below W.heap.size W wN:=hbX.trans (Below.mono hN hbX.size)
      go_wp2
      go_ret
      exact ⟨⟨false,rfl,by simp; exact hbad⟩,hb.trans (hbN.mono hb.size)⟩
     | true =>
     simp only [hgq] at kn
     have hthis:0 <= kindOf es bx/\ky.good bk=true/\nm.good bq=true:=⟨by rw [HKD.out]; exact hge0,hgk,hgq⟩
     have HTH:Hid (0 <= kindOf es bx/\ky.good bk=true/\nm.good bq=true):=hthis
     clear hthis hgk hgq
     by_cases hk0:k=0
     ·subst hk0
      have hnext:Hid (GoodB es bs (0+1)):=goodB_next hgood.out HG.out HTH.out (fun p h=>absurd rfl h)
      go_wp2
      refine qi.region_in X1 (qi.T.refl X1) (by kernel_rfl) (by kernel_rfl) ?_
      repeat (go_big_quiet_step (first | (go_at_call 95; refine (kk _).mono ?_; rintro e wx ⟨rfl,hTx⟩; exact ⟨rfl,⟨wx,hTx⟩,rfl⟩) | (go_at_call 96; refine (kq _).mono ?_; rintro e wx ⟨rfl,hTx⟩; exact ⟨rfl,⟨wx,hTx⟩,rfl⟩) | (go_at_call 91; refine (kn _).mono ?_; rintro e wx ⟨rfl,hTx⟩; exact ⟨rfl,⟨wx,hTx⟩,rfl⟩)))
      refine wpQuiet_nil ?_
      rintro _ ⟨N,rfl⟩
      have hN:=N.h
      generalize N.x=wN at hN ⊢
      clear N kk kq kn x0 x1 x2 r0 r1
      have hbN:Below W.heap.size W wN:=hbX.trans (Below.mono hN hbX.size)
      go_wp2
      go_roundw
      case rel=>exact ⟨0+1,by omega,by go_num,hnext,hbN⟩
      case measure=>simp [intOf]; omega
     ·obtain ⟨m,rfl⟩:∃ m,k=m+1:=⟨k - 1,by omega⟩
      have g1:bs[m]?=some bs[m]:=List.getElem?_eq_getElem (by omega)
      obtain ⟨d0,d1,d2⟩:=(HB.out.below hbX).2 m _ g1
      have HG1:Hid (bs[m]?=some bs[m]):=g1
      obtain ⟨⟨px,pk,pq⟩,hpe⟩:∃ e,bs[m]=e:=⟨_,rfl⟩
      rw [hpe] at d0 d1 d2 HG1
      have hgbX:=(HB.out.below hbX).1
      have P0:∀ N:qi.Cls X1,N.x.cell? ⟨gb,m*3,none⟩=some (.string px):=fun N=>(Below.cell N.h (p:=⟨gb,m*3,none⟩) hgbX).trans d0
      have P1:∀ N:qi.Cls X1,N.x.cell? ⟨gb,m*3+1,none⟩=some (.string pk):=fun N=>(Below.cell N.h (p:=⟨gb,m*3+1,none⟩) hgbX).trans d1
      have P2:∀ N:qi.Cls X1,N.x.cell? ⟨gb,m*3+2,none⟩=some (.string pq):=fun N=>(Below.cell N.h (p:=⟨gb,m*3+2,none⟩) hgbX).trans d2
      have i1:IntKind.i64.wrap (m:Int)=(m:Int):=by rw [IntKind.wrap_i64]; omega
      have i2:(m:Int) < (bs.length:Int):=by omega
      have kb:∀ N:qi.Cls X1,Calls Tryz.prog 97 #[.agg #[.string px,.string pk,.string pq],.agg #[.string bx,.string bk,.string bq]] N.x fun e w'=>e=.returned (.bool (before ⟨px,pk,pq⟩ ⟨bx,bk,bq⟩))/\qi.T X1 w':=fun N=>(spec_before ⟨px,pk,pq⟩ ⟨bx,bk,bq⟩ N.x).mono fun e w' ⟨h1,h2⟩=>⟨h1,N.h.next h2⟩
      clear g1 hpe d0 d1 d2
      cases hbf:before ⟨px,pk,pq⟩ ⟨bx,bk,bq⟩ with
      | false =>
       have hbad:¬ OkR es bs:=fun h=>by
        have h1:=before_cmp.2 (h.bu m _ _ (by omega) HG1.out HG.out)
        rw [hbf] at h1
        cases h1
       simp only [hbf] at kb
       go_wp2
       refine qi.region_in X1 (qi.T.refl X1) (by kernel_rfl) (by kernel_rfl) ?_
       repeat (go_big_quiet_step (first | (go_at_call 95; refine (kk _).mono ?_; rintro e wx ⟨rfl,hTx⟩; exact ⟨rfl,⟨wx,hTx⟩,rfl⟩) | (go_at_call 96; refine (kq _).mono ?_; rintro e wx ⟨rfl,hTx⟩; exact ⟨rfl,⟨wx,hTx⟩,rfl⟩) | (go_at_call 91; refine (kn _).mono ?_; rintro e wx ⟨rfl,hTx⟩; exact ⟨rfl,⟨wx,hTx⟩,rfl⟩) | (go_at_call 97; refine (kb _).mono ?_; rintro e wx ⟨rfl,hTx⟩; exact ⟨rfl,⟨wx,hTx⟩,rfl⟩)))
       refine wpQuiet_nil ?_
       rintro _ ⟨N,rfl⟩
       have hN:=N.h
       generalize N.x=wN at hN ⊢
       clear N kk kq kn x0 x1 x2 r0 r1 kb P0 P1 P2
       have hbN:Below W.heap.size W wN:=hbX.trans (Below.mono hN hbX.size)
       go_wp2
       go_ret
       exact ⟨⟨false,rfl,by simp; exact hbad⟩,hb.trans (hbN.mono hb.size)⟩
      | true =>
       have hnext:Hid (GoodB es bs (m+1+1)):=goodB_next hgood.out HG.out HTH.out (fun p _ hp=>by
        have hp2:bs[m]?=some p:=hp
        rw [HG1.out] at hp2
        cases hp2
        exact hbf)
       simp only [hbf] at kb
       go_wp2
       refine qi.region_in X1 (qi.T.refl X1) (by kernel_rfl) (by kernel_rfl) ?_
       repeat (go_big_quiet_step (first | (go_at_call 95; refine (kk _).mono ?_; rintro e wx ⟨rfl,hTx⟩; exact ⟨rfl,⟨wx,hTx⟩,rfl⟩) | (go_at_call 96; refine (kq _).mono ?_; rintro e wx ⟨rfl,hTx⟩; exact ⟨rfl,⟨wx,hTx⟩,rfl⟩) | (go_at_call 91; refine (kn _).mono ?_; rintro e wx ⟨rfl,hTx⟩; exact ⟨rfl,⟨wx,hTx⟩,rfl⟩) | (go_at_call 97; refine (kb _).mono ?_; rintro e wx ⟨rfl,hTx⟩; exact ⟨rfl,⟨wx,hTx⟩,rfl⟩)))
       refine wpQuiet_nil ?_
       rintro _ ⟨N,rfl⟩
       have hN:=N.h
       generalize N.x=wN at hN ⊢
       clear N kk kq kn x0 x1 x2 r0 r1 kb P0 P1 P2
       have hbN:Below W.heap.size W wN:=hbX.trans (Below.mono hN hbX.size)
       go_wp2
       go_roundw
       case rel=>exact ⟨m+1+1,by omega,by go_num,hnext,hbN⟩
       case measure=>simp [intOf]; omega
    ·obtain rfl:k=bs.length:=by omega
     have hiff:Hid ((es.length <= 60/\bs.length <= 60) ↔ OkR es bs):=⟨fun ⟨h1,h2⟩=>⟨h1,h2,fun i e he=>HGE.out.1 i e (List.getElem?_eq_some_iff.1 he).1 he,HGE.out.2,fun i b hb=>hgood.out.1 i b (List.getElem?_eq_some_iff.1 hb).1 hb,hgood.out.2⟩,fun h=>⟨h.el,h.bl⟩⟩
     by_cases h1:es.length <= 60
     ·have d1:decide ((es.length:Int) <= 60)=true:=by simp; omega
      by_cases h2:bs.length <= 60
      ·have d2:decide ((bs.length:Int) <= 60)=true:=by simp; omega
       go_wp2
       go_ret
       exact ⟨⟨true,rfl,by simp; exact hiff.out.1 ⟨h1,h2⟩⟩,hb.trans (hbel.mono hb.size)⟩
      ·have d2:decide ((bs.length:Int) <= 60)=false:=by simp; omega
       go_wp2
       go_ret
       exact ⟨⟨false,rfl,by simp; exact fun h=>h2 (hiff.out.2 h).2⟩,hb.trans (hbel.mono hb.size)⟩
     ·have d1:decide ((es.length:Int) <= 60)=false:=by simp; omega
      go_wp2
      go_ret
      exact ⟨⟨false,rfl,by simp; exact fun h=>h1 (hiff.out.2 h).1⟩,hb.trans (hbel.mono hb.size)⟩
end Go.Proofs.YtaoefccgdfcchaaGreat.rk

namespace Go.Proofs.YtaoefccgdfcchaaGreat.flK
open ChangeShapes WideShapes ChangeAt RowKit fl
def c (e:rr.Ex):List Value:=[.string e.n,.int .i64 e.k]
theorem c_len (e:rr.Ex):(c e).length=2:=rfl
def ok (e:rr.Ex):Prop:=e.n.size <= maxLen
def wt (e:rr.Ex):Nat:=e.n.size
theorem sz_one (e:rr.Ex) (left:Int) (w:World) (h0:-1 <= left) (h1:left <= 1048576) (hx:ok e) :
  Calls Tryz.prog 137 #[.agg #[.string e.n,.int .i64 e.k],.int .i64 left] w fun r w'=>r=.returned (.int .i64 (if left - (wt e:Int) < 0 then -1 else left - (wt e:Int)))/\Below w.heap.size w w':=by
 obtain ⟨fn,fk⟩:=e
 have hx0:=hx
 have hx0:fn.size <= 9223372036854775807:=hx0
 unfold wt
 by_cases g0:left - (fn.size:Int) < 0
 ·rw [if_pos (by show left - ((fn.size:Nat):Int) < 0; omega)]
  go_enter Tryz.func137,Tryz.ntmps137
  go_wp2
  go_ret
  exact ⟨rfl,(Below.refl _ _).alloc (Nat.le_refl _) _⟩
 have he:left - ((fn.size:Nat):Int)=left - (fn.size:Int):=by omega
 rw [if_neg (by show ¬ left - ((fn.size:Nat):Int) < 0; omega)]
 show Calls _ _ _ _ fun r w'=>r=.returned (.int .i64 (left - ((fn.size:Nat):Int)))/\_
 rw [he]
 go_enter Tryz.func137,Tryz.ntmps137
 go_wp2
 go_ret
 exact ⟨rfl,(Below.refl _ _).alloc (Nat.le_refl _) _⟩
theorem sz_all (l:List rr.Ex) (a:Option Addr) (cap:Nat) (left:Int) (w:World) (hl:l.length <= maxLen) (hx:∀ e ∈ l,ok e) (h0:-1 <= left) (h1:left <= 1048576) (hS:Row c 2 w w.heap.size a l) :
  Calls Tryz.prog 90 #[.slice a l.length cap,.int .i64 left] w fun e w'=>∃ r:Int,e=.returned (.int .i64 r)/\(0 <= r->r=left - l.length - bulk wt l)/\-1 <= r/\r <= 1048576/\Below w.heap.size w w':=by
 have hl':=hl
 unfold maxLen at hl'
 by_cases hneg:left - l.length < 0
 ·go_enter Tryz.func90,Tryz.ntmps90
  go_wp2
  go_ret
  exact ⟨-1,rfl,by omega,by omega,by omega,Below.refl _ _⟩
 rcases hS with rfl | ⟨b,off,rfl,hlt,hc⟩
 ·go_enter Tryz.func90,Tryz.ntmps90
  go_wp2
  refine wp_loop_rounds 1 ?_
  rw [rounds_succ]
  go_wp2
  go_ret
  exact ⟨_,rfl,fun _=>by simp [bulk],by simp at hneg; omega,by simp at hneg; omega,Below.refl _ _⟩
 ·have HC:Hid (∀ (i:Nat) (e:rr.Ex),l[i]?=some e->∀ (j:Nat) (v:Value),(c e)[j]?=some v->w.cell? ⟨b,off+i*2+j,none⟩=some v):=hc
  have HX:Hid (∀ e ∈ l,ok e):=hx
  clear hc hx
  go_enter Tryz.func90,Tryz.ntmps90
  go_wp2
  go_loopw [1,5] (fun y x wr=>∃ k:Nat,k <= l.length/\x=.int .i64 k/\y=.int .i64 (left - l.length - bulk wt (l.take k))/\0 <= left - l.length - bulk wt (l.take k)/\Below w.heap.size w wr) (fun _ x _=>l.length - (intOf x).toNat)
  case atStart=>exact ⟨0,Nat.zero_le _,rfl,by simp [bulk],by simp [bulk]; omega,Below.refl _ _⟩
  case round =>
   obtain ⟨k,hk,rfl,rfl,hr0,hbel⟩:=hrel
   have hbs:=hbel.size
   by_cases hkl:k < l.length
   ·have HG:Hid (l[k]?=some l[k]):=List.getElem?_eq_getElem hkl
    have hxs:=HX.out l[k] (List.getElem_mem hkl)
    have HBK:Hid (bulk wt (l.take (k+1))=bulk wt (l.take k)+wt l[k]):=bulk_take wt hkl
    obtain ⟨⟨fn,fk⟩,he⟩:∃ e,l[k]=e:=⟨_,rfl⟩
    rw [he] at hxs HBK HG
    have c0:wr.cell? ⟨b,off+k*2,none⟩=some (.string fn):=(hbel.cell (p:=⟨b,off+k*2,none⟩) hlt).trans (HC.out k _ HG.out 0 _ rfl)
    have c1:wr.cell? ⟨b,off+k*2+1,none⟩=some (.int .i64 fk):=(hbel.cell (p:=⟨b,off+k*2+1,none⟩) hlt).trans (HC.out k _ HG.out 1 _ rfl)
    obtain ⟨m,hm⟩:∃ m,bulk wt (l.take k)=m:=⟨_,rfl⟩
    rw [hm] at HBK hr0 ⊢
    have hone:=sz_one ⟨fn,fk⟩ (left - l.length - m) wr (by omega) (by omega) hxs
    obtain ⟨wv,hwt⟩:∃ wv,wt ⟨fn,fk⟩=wv:=⟨_,rfl⟩
    rw [hwt] at hone HBK
    clear hm he hwt hxs
    by_cases hlo:left - l.length - m - wv < 0
    ·rw [if_pos hlo] at hone
     go_wp2_with (go_at_call 137; refine hone.mono ?_; rintro e w1 ⟨rfl,hb1⟩)
     go_ret
     exact ⟨-1,rfl,by omega,by omega,by omega,hbel.trans (hb1.mono hbs)⟩
    ·rw [if_neg hlo] at hone
     go_wp2_with (go_at_call 137; refine hone.mono ?_; rintro e w1 ⟨rfl,hb1⟩)
     go_roundw
     case rel=>exact ⟨k+1,by omega,by go_num,by rw [HBK.out]; congr 1; omega,by rw [HBK.out]; omega,hbel.trans (hb1.mono hbs)⟩
     case measure=>simp [intOf]; omega
   ·obtain rfl:k=l.length:=by omega
    rw [List.take_length] at hr0 ⊢
    go_wp2
    go_ret
    exact ⟨_,rfl,fun _=>rfl,by omega,by omega,hbel⟩
theorem to_one (e:rr.Ex) (w:World):Calls Tryz.prog 141 #[.agg #[.string e.n,.int .i64 e.k]] w fun r w'=>r=.returned (.agg #[.string e.n,.int .i64 e.k])/\Below w.heap.size w w':=by
 obtain ⟨fn,fk⟩:=e
 go_enter Tryz.func141,Tryz.ntmps141
 go_wp2
 refine bodyPost_ret (v:=.agg #[.string fn,.int .i64 fk]) (by simp [results,Tryz.results141,go_sem]) rfl ⟨rfl,?_⟩
 repeat (first | exact Below.refl _ _ | refine Below.setCell ?_ ?_ _ | refine Below.alloc ?_ ?_ _)
 all_goals (simp; try omega)
theorem own_set {T:TypeId} {w:World} {g k:Nat} {l:List rr.Ex} (fn:ByteArray) (fk:Int) (h:Own c 2 T w g l k) (he:l[k]?=some ⟨fn,fk⟩):Own c 2 T ((w.setCell ⟨g,k*2,none⟩ (.string fn)).setCell ⟨g,k*2+1,none⟩ (.int .i64 fk)) g l (k+1):=by
 have:=Own.set c_len h he
 simpa only [setRow,c,Nat.add_assoc,Nat.reduceAdd] using this
theorem info:(Tryz.prog.info? 136).map (fun i=>(i.zero,i.size,i.bytes))=some (some (.agg #[.string ByteArray.empty,.int .i64 0]),2,24):=by kernel_rfl
theorem to_all (l:List rr.Ex) (a:Option Addr) (cap:Nat) (w:World) (hl:l.length <= 1048576) (hS:Row c 2 w w.heap.size a l) :
  Calls Tryz.prog 103 #[.slice a l.length cap] w fun e w'=>e=.returned (.slice (some ⟨w.heap.size,0,none⟩) l.length l.length)/\Own c 2 136 w' w.heap.size l l.length/\Below w.heap.size w w':=by
 obtain ⟨i0,hi,hz0,hz1,hz2⟩:∃ i0,Tryz.prog.info? 136=some i0/\i0.zero=some (.agg #[.string ByteArray.empty,.int .i64 0])/\i0.size=2/\i0.bytes=24:=by
  have h:=info
  cases hh:Tryz.prog.info? 136 with
  | none=>rw [hh] at h; cases h
  | some i=>rw [hh] at h; simp at h; exact ⟨i,rfl,h.1,h.2.1,h.2.2⟩
 have hmk:=run_makeSlice (P:=Tryz.prog) w 52 136 i0 _ Tryz.underlying52 hi hz0 .i64 .i64 (l.length:Int) (l.length:Int) (by omega) (Int.le_refl _) (by rw [hz1]; simp; omega) (by rw [hz2]; omega) (by omega)
 rw [hz1,show ((l.length:Int)).toNat=l.length by omega] at hmk
 have hmk2:(Instr.makeSlice 52 (.int .i64 (l.length:Int)) (.int .i64 (l.length:Int))).run Tryz.prog w=.ok (.slice (some ⟨w.heap.size,0,none⟩) l.length l.length) (w.alloc (.cells (madeCells #[.string ByteArray.empty,.int .i64 0] (l.length*2)) 136)):=hmk
 have hf0:Own c 2 136 (w.alloc (.cells (madeCells #[.string ByteArray.empty,.int .i64 0] (l.length*2)) 136)) w.heap.size l 0:=made #[.string ByteArray.empty,.int .i64 0].toList w l rfl
 have hb0:=fl.bl w (.cells (madeCells #[.string ByteArray.empty,.int .i64 0] (l.length*2)) 136)
 obtain ⟨W,hW⟩:∃ W,w.alloc (.cells (madeCells #[.string ByteArray.empty,.int .i64 0] (l.length*2)) 136)=W:=⟨_,rfl⟩
 rw [hW] at hmk2 hf0 hb0
 have HF0:Hid (Own c 2 136 W w.heap.size l 0):=hf0
 clear hmk hW hf0
 rcases hS with rfl | ⟨b,off,rfl,hlt,hc⟩
 ·have hmk3:(Instr.makeSlice 52 (.int .i64 0) (.int .i64 0)).run Tryz.prog w=.ok (.slice (some ⟨w.heap.size,0,none⟩) 0 0) W:=by simpa using hmk2
  clear hmk2
  go_enter Tryz.func103,Tryz.ntmps103
  go_wp2
  refine wp_loop_rounds 1 ?_
  rw [rounds_succ]
  go_wp2
  go_ret
  exact ⟨rfl,HF0.out,hb0⟩
 ·have HC:Hid (∀ (i:Nat) (e:rr.Ex),l[i]?=some e->∀ (j:Nat) (v:Value),(c e)[j]?=some v->w.cell? ⟨b,off+i*2+j,none⟩=some v):=hc
  clear hc
  go_enter Tryz.func103,Tryz.ntmps103
  go_wp2
  go_loopw [4] (fun x wr=>∃ k:Nat,k <= l.length/\x=.int .i64 k/\Below w.heap.size w wr/\Hid (Own c 2 136 wr w.heap.size l k)) (fun x _=>l.length - (intOf x).toNat)
  case atStart=>exact ⟨0,Nat.zero_le _,rfl,hb0,HF0⟩
  case round =>
   obtain ⟨k,hk,rfl,hbel,hf⟩:=hrel
   have hbs:=hbel.size
   by_cases hkl:k < l.length
   ·have HG:Hid (l[k]?=some l[k]):=List.getElem?_eq_getElem hkl
    obtain ⟨⟨fn,fk⟩,he⟩:∃ e,l[k]=e:=⟨_,rfl⟩
    rw [he] at HG
    have c0:wr.cell? ⟨b,off+k*2,none⟩=some (.string fn):=(hbel.cell (p:=⟨b,off+k*2,none⟩) hlt).trans (HC.out k _ HG.out 0 _ rfl)
    have c1:wr.cell? ⟨b,off+k*2+1,none⟩=some (.int .i64 fk):=(hbel.cell (p:=⟨b,off+k*2+1,none⟩) hlt).trans (HC.out k _ HG.out 1 _ rfl)
    have hone:=to_one ⟨fn,fk⟩ wr
    have hfl:=hf.out.lt
    clear he
    go_wp2_with (go_at_call 141; refine hone.mono ?_; rintro e w1 ⟨rfl,hb1⟩; have hf1:=hf.out.below hb1 hfl; obtain ⟨v0,g0⟩:=hf1.at (k*2) (by omega); have z0:=hf1.free (k*2); obtain ⟨v1,g1⟩:=hf1.at (k*2+1) (by omega); have z1:=hf1.free (k*2+1); have HN:Hid (Own c 2 136 ((w1.setCell ⟨w.heap.size,k*2,none⟩ (.string fn)).setCell ⟨w.heap.size,k*2+1,none⟩ (.int .i64 fk)) w.heap.size l (k+1)):=own_set fn fk hf1 HG.out; clear hf1)
    go_roundw
    case rel=>exact ⟨k+1,by omega,by go_num,(((hbel.trans (hb1.mono hbs)).setCell (Nat.le_refl _) _).setCell (Nat.le_refl _) _),HN⟩
    case measure=>simp [intOf]; omega
   ·obtain rfl:k=l.length:=by omega
    go_wp2
    go_ret
    exact ⟨rfl,hf.out,hbel⟩
theorem eq_one (e:rr.Ex) (w:World):Calls Tryz.prog 156 #[.agg #[.string e.n,.int .i64 e.k],.agg #[.string e.n,.int .i64 e.k]] w fun r w'=>r=.returned (.bool true)/\Below w.heap.size w w':=by
 obtain ⟨fn,fk⟩:=e
 go_enter Tryz.func156,Tryz.ntmps156
 go_wp2
 go_ret
 exact ⟨rfl,((Below.refl _ _).alloc (Nat.le_refl _) _).alloc (by simp) _⟩
theorem eq_all (l:List rr.Ex) (a a':Option Addr) (ca ca':Nat) (w:World) (hl:l.length <= maxLen) (ha:Row c 2 w w.heap.size a l) (hb:Row c 2 w w.heap.size a' l) :
  Calls Tryz.prog 133 #[.slice a l.length ca,.slice a' l.length ca'] w fun e w'=>e=.returned (.bool true)/\Below w.heap.size w w':=by
 have hl':=hl
 unfold maxLen at hl'
 have nilw:∀ a a':Option Addr,Calls Tryz.prog 133 #[.slice a 0 ca,.slice a' 0 ca'] w fun e w'=>e=.returned (.bool true)/\Below w.heap.size w w':=fun a a'=>by
  go_enter Tryz.func133,Tryz.ntmps133
  go_wp2
  refine wp_loop_rounds 1 ?_
  rw [rounds_succ]
  go_wp2
  go_ret
  exact ⟨rfl,Below.refl _ _⟩
 rcases ha with rfl | ⟨b,off,rfl,hlt,hc⟩
 ·exact nilw a a'
 rcases hb with rfl | ⟨b',off_,rfl,hlt',hc'⟩
 ·exact nilw _ _
 ·have HA:Hid (∀ (i:Nat) (e:rr.Ex),l[i]?=some e->∀ (j:Nat) (v:Value),(c e)[j]?=some v->w.cell? ⟨b,off+i*2+j,none⟩=some v):=hc
  have HB:Hid (∀ (i:Nat) (e:rr.Ex),l[i]?=some e->∀ (j:Nat) (v:Value),(c e)[j]?=some v->w.cell? ⟨b',off_+i*2+j,none⟩=some v):=hc'
  clear hc hc' nilw
  go_enter Tryz.func133,Tryz.ntmps133
  go_wp2
  go_loopw [5] (fun x wr=>∃ k:Nat,k <= l.length/\x=.int .i64 k/\Below w.heap.size w wr) (fun x _=>l.length - (intOf x).toNat)
  case atStart=>exact ⟨0,Nat.zero_le _,rfl,Below.refl _ _⟩
  case round =>
   obtain ⟨k,hk,rfl,hbel⟩:=hrel
   have hbs:=hbel.size
   by_cases hkl:k < l.length
   ·have HG:Hid (l[k]?=some l[k]):=List.getElem?_eq_getElem hkl
    obtain ⟨⟨fn,fk⟩,he⟩:∃ e,l[k]=e:=⟨_,rfl⟩
    rw [he] at HG
    have a0:wr.cell? ⟨b,off+k*2,none⟩=some (.string fn):=(hbel.cell (p:=⟨b,off+k*2,none⟩) hlt).trans (HA.out k _ HG.out 0 _ rfl)
    have b0:wr.cell? ⟨b',off_+k*2,none⟩=some (.string fn):=(hbel.cell (p:=⟨b',off_+k*2,none⟩) hlt').trans (HB.out k _ HG.out 0 _ rfl)
    have a1:wr.cell? ⟨b,off+k*2+1,none⟩=some (.int .i64 fk):=(hbel.cell (p:=⟨b,off+k*2+1,none⟩) hlt).trans (HA.out k _ HG.out 1 _ rfl)
    have b1:wr.cell? ⟨b',off_+k*2+1,none⟩=some (.int .i64 fk):=(hbel.cell (p:=⟨b',off_+k*2+1,none⟩) hlt').trans (HB.out k _ HG.out 1 _ rfl)
    have hone:=eq_one ⟨fn,fk⟩ wr.drew
    have i2:(k:Int) < (l.length:Int):=by omega
    clear he
    go_wp2
    go_region_with (go_at_call 156; refine hone.mono ?_; rintro e w1 ⟨rfl,hb1⟩)
    all_goals go_wp2
    all_goals go_roundw
    all_goals first | exact ⟨k+1,by omega,by go_num,hbel.drew.trans (hb1.mono hbs)⟩ | (simp [intOf]; omega)
   ·obtain rfl:k=l.length:=by omega
    go_wp2
    go_ret
    exact ⟨rfl,hbel⟩
end Go.Proofs.YtaoefccgdfcchaaGreat.flK
