/- RouteImpl, RouteSize, RouteTo. -/
import Derived.Test.YtaoefccgdfcchaaGreatKq06
import Derived.Laws.MakeOwn
set_option maxRecDepth 100000
set_option maxHeartbeats 8000000
set_option linter.unusedVariables false
namespace Go.Proofs.YtaoefccgdfcchaaGreat.ri
open ChangeShapes WideShapes ChangeAt RowKit rc rr rf rs ro rk
theorem find_ex (es:List Ex) (g c:Nat) (name:ByteArray) (w:World) (hl:es.length <= 1048576) (hE:RE w g es) (hU:UpE es es.length) :
  Calls Tryz.prog 112 #[.slice (some ⟨g,0,none⟩) es.length c,.string name] w fun r w'=>(∃ (p:Nat) (b:Bool),r=.returned (.tuple #[.int .i64 p,.bool b])/\PosE es name p/\(b=true ↔ ∃ (t:Nat) (a:Ex),es[t]?=some a/\a.n=name))/\Below w.heap.size w w':=by
 have hs:=search_ex es g c name w hl hE (up_mon hU name)
 have HU:Hid (UpE es es.length):=hU
 clear hE hU
 go_enter Tryz.func112,Tryz.ntmps112
 go_wp2_with (go_at_call 143; refine hs.mono ?_; rintro e w1 ⟨⟨p,b,rfl,hp,hb⟩,hb1⟩)
 go_ret2
 exact ⟨⟨p,b,rfl,hp,hb.trans (found HU.out hp)⟩,hb1⟩
theorem impl_routes (es:List Ex) (bs:List Bi) (ge ce gb cb:Nat) (w:World) (hel:es.length <= 1048576) (hbl:bs.length <= 1048576) (hes:∀ e ∈ es,e.n.size <= 1048576) (hbs:∀ b ∈ bs,b.x.size <= 1048576/\b.k.size <= 1048576/\b.q.size <= 1048576) (hE:RE w ge es) (hB:RB w gb bs) :
  Calls Tryz.prog 54 #[.agg #[.slice (some ⟨ge,0,none⟩) es.length ce,.slice (some ⟨gb,0,none⟩) bs.length cb]] w fun r w'=>(∃ b:Bool,r=.returned (.bool b)/\(b=true ↔ OkR es bs))/\Below w.heap.size w w':=by
 have hb:Below w.heap.size w (w.alloc (.cells #[.slice (some ⟨ge,0,none⟩) es.length ce,.slice (some ⟨gb,0,none⟩) bs.length cb] 34)):=(Below.refl _ _).alloc (Nat.le_refl _) _
 have hRb:=heap_alloc_new w (.cells #[.slice (some ⟨ge,0,none⟩) es.length ce,.slice (some ⟨gb,0,none⟩) bs.length cb] 34)
 have HE:Hid (RE (w.alloc (.cells #[.slice (some ⟨ge,0,none⟩) es.length ce,.slice (some ⟨gb,0,none⟩) bs.length cb] 34)) ge es):=hE.below hb
 have HB:Hid (RB (w.alloc (.cells #[.slice (some ⟨ge,0,none⟩) es.length ce,.slice (some ⟨gb,0,none⟩) bs.length cb] 34)) gb bs):=hB.below hb
 have hlt:w.heap.size < (w.alloc (.cells #[.slice (some ⟨ge,0,none⟩) es.length ce,.slice (some ⟨gb,0,none⟩) bs.length cb] 34)).heap.size:=by simp
 obtain ⟨W,hW⟩:∃ W,w.alloc (.cells #[.slice (some ⟨ge,0,none⟩) es.length ce,.slice (some ⟨gb,0,none⟩) bs.length cb] 34)=W:=⟨_,rfl⟩
 rw [hW] at hb hRb HE HB hlt
 have HRb:Hid (W.heap[w.heap.size]?=some (.cells #[.slice (some ⟨ge,0,none⟩) es.length ce,.slice (some ⟨gb,0,none⟩) bs.length cb] 34 (0,0))):=hRb
 have HES:Hid (∀ e ∈ es,e.n.size <= 1048576):=hes
 have HBS:Hid (∀ b ∈ bs,b.x.size <= 1048576/\b.k.size <= 1048576/\b.q.size <= 1048576):=hbs
 have box:∀ wr,Below W.heap.size W wr->wr.cell? ⟨w.heap.size,0,none⟩=some (.slice (some ⟨ge,0,none⟩) es.length ce)/\wr.cell? ⟨w.heap.size,1,none⟩=some (.slice (some ⟨gb,0,none⟩) bs.length cb):=fun wr h=>by
  have h1:=(h.block w.heap.size hlt).trans HRb.out
  exact ⟨by simp [World.cell?,h1],by simp [World.cell?,h1]⟩
 have BOX:Hid (∀ wr,Below W.heap.size W wr->wr.cell? ⟨w.heap.size,0,none⟩=some (.slice (some ⟨ge,0,none⟩) es.length ce)/\wr.cell? ⟨w.heap.size,1,none⟩=some (.slice (some ⟨gb,0,none⟩) bs.length cb)):=box
 clear hE hB hRb hes hbs box
 obtain ⟨s0,s1⟩:=BOX.out W (Below.refl _ _)
 by_cases h1:60 < es.length
 ·have d1:decide ((60:Int) < (es.length:Int))=true:=by simp; omega
  go_enter Tryz.func54,Tryz.ntmps54
  go_wp2
  go_ret
  exact ⟨⟨false,rfl,by simp; exact fun h=>by have:=h.el; omega⟩,hb⟩
 by_cases h2:60 < bs.length
 ·have d1:decide ((60:Int) < (es.length:Int))=false:=by simp; omega
  have d2:decide ((60:Int) < (bs.length:Int))=true:=by simp; omega
  go_enter Tryz.func54,Tryz.ntmps54
  go_wp2
  go_ret
  exact ⟨⟨false,rfl,by simp; exact fun h=>by have:=h.bl; omega⟩,hb⟩
 have d1:decide ((60:Int) < (es.length:Int))=false:=by simp; omega
 have d2:decide ((60:Int) < (bs.length:Int))=false:=by simp; omega
 go_enter Tryz.func54,Tryz.ntmps54
 go_wp2
 clear hW d1 d2 s0 s1
 go_loopw [22,4] (fun v _ wr=>∃ k:Nat,k <= es.length/\v=.int .i64 k/\Hid (∀ (i:Nat) e,i < k->es[i]?=some e->exOk e=true)/\Below W.heap.size W wr) (fun v _ _=>es.length - (intOf v).toNat)
 case atStart=>exact ⟨0,Nat.zero_le _,rfl,fun i e h=>by omega,Below.refl _ _⟩
 case round =>
  obtain ⟨k,hk,rfl,hgood,hbel⟩:=hrel
  have hbsz:=hbel.size
  by_cases hkl:k < es.length
  ·have g0:es[k]?=some es[k]:=List.getElem?_eq_getElem hkl
   have hsz:=HES.out es[k] (List.getElem_mem hkl)
   obtain ⟨a0,a1⟩:=(HE.out.below hbel).2 k _ g0
   have HG:Hid (es[k]?=some es[k]):=g0
   obtain ⟨⟨en,ek⟩,he⟩:∃ e,es[k]=e:=⟨_,rfl⟩
   rw [he] at a0 a1 HG hsz
   have hok:=exchange_ok ⟨en,ek⟩ (wr.alloc (.cells #[.string en,.int .i64 ek] 137)) hsz
   clear g0 he
   cases hx:exOk ⟨en,ek⟩ with
   | false =>
    rw [hx] at hok
    have hbad:¬ OkR es bs:=bad_ex HG.out hx
    go_wp2_with (go_at_call 107; refine hok.mono ?_; rintro e w1 ⟨rfl,hb1⟩)
    go_ret
    exact ⟨⟨false,rfl,by simp; exact hbad⟩,hb.trans (((hbel.alloc hbsz _).trans (hb1.mono (by simp; omega))).mono hb.size)⟩
   | true =>
    rw [hx] at hok
    have hnext:Hid (∀ (i:Nat) e,i < k+1->es[i]?=some e->exOk e=true):=fun i e hi he=>by
     by_cases ei:i=k
     ·subst ei; rw [HG.out] at he; cases he; exact hx
     ·exact hgood.out i e (by omega) he
    go_wp2_with (go_at_call 107; refine hok.mono ?_; rintro e w1 ⟨rfl,hb1⟩)
    go_roundw
    case rel=>exact ⟨k+1,by omega,by go_num,hnext,(hbel.alloc hbsz _).trans (hb1.mono (by simp; omega))⟩
    case measure=>simp [intOf]; omega
  ·obtain rfl:k=es.length:=by omega
   obtain ⟨c0,c1⟩:=BOX.out wr hbel
   have hae:=asc_ex es ge ce wr hel (HE.out.below hbel)
   have HAO:Hid (∀ (i:Nat) e,es[i]?=some e->exOk e=true):=fun i e he=>hgood.out i e (List.getElem?_eq_some_iff.1 he).1 he
   clear hgood
   go_wp2_with (go_at_call 108; fail)
   refine hae.mono ?_
   rintro e w1 ⟨⟨b1,rfl,hb1e⟩,hb1⟩
   have hbel1:Below W.heap.size W w1:=hbel.trans (hb1.mono hbsz)
   obtain ⟨c0',c1'⟩:=BOX.out w1 hbel1
   clear hae c0 c1
   cases b1 with
   | false =>
    have hbad:¬ OkR es bs:=fun h=>by have:=hb1e.2 h.eu; cases this
    go_wp2
    go_ret
    exact ⟨⟨false,rfl,by simp; exact hbad⟩,hb.trans (hbel1.mono hb.size)⟩
   | true =>
    have HUE:Hid (UpE es es.length):=hb1e.1 rfl
    have hab:=asc_bi bs gb cb w1 hbl (HB.out.below hbel1)
    clear hb1e
    go_wp2_with (go_at_call 110; fail)
    refine hab.mono ?_
    rintro e w2 ⟨⟨b2,rfl,hb2e⟩,hb2⟩
    have hbel2:Below W.heap.size W w2:=hbel1.trans (hb2.mono hbel1.size)
    obtain ⟨c0'',c1''⟩:=BOX.out w2 hbel2
    clear hab c0' c1'
    cases b2 with
    | false =>
     have hbad:¬ OkR es bs:=fun h=>by have:=hb2e.2 h.bu; cases this
     go_wp2
     go_ret
     exact ⟨⟨false,rfl,by simp; exact hbad⟩,hb.trans (hbel2.mono hb.size)⟩
    | true =>
     have HUB:Hid (UpB bs bs.length):=hb2e.1 rfl
     clear hb2e hbel hbsz hbel1 hb1 hb2
     go_wp2
     go_loopw [43,6,7,8] (fun v _ _ _ wq=>∃ k:Nat,k <= bs.length/\v=.int .i64 k/\Hid (∀ (i:Nat) b,i < k->bs[i]?=some b->0 <= kindOf es b.x/\ky.good b.k=true/\nm.good b.q=true)/\Below W.heap.size W wq) (fun v _ _ _ _=>bs.length - (intOf v).toNat)
     case atStart=>exact ⟨0,Nat.zero_le _,rfl,fun i e h=>by omega,hbel2⟩
     case round =>
      obtain ⟨k,hk,rfl,hgood,hbel⟩:=hrel
      have hbsz:=hbel.size
      obtain ⟨c0,c1⟩:=BOX.out wr hbel
      by_cases hkl:k < bs.length
      ·have g0:bs[k]?=some bs[k]:=List.getElem?_eq_getElem hkl
       obtain ⟨z1,z2,z3⟩:=HBS.out bs[k] (List.getElem_mem hkl)
       obtain ⟨a0,a1,a2⟩:=(HB.out.below hbel).2 k _ g0
       have HG:Hid (bs[k]?=some bs[k]):=g0
       obtain ⟨⟨bx,bk,bq⟩,he⟩:∃ e,bs[k]=e:=⟨_,rfl⟩
       rw [he] at a0 a1 a2 HG z1 z2 z3
       have hbX:Below W.heap.size W (wr.alloc (.cells #[.string bx,.string bk,.string bq] 138)):=hbel.alloc hbsz _
       have hx1:=heap_alloc_new wr (.cells #[.string bx,.string bk,.string bq] 138)
       have hxl:wr.heap.size < (wr.alloc (.cells #[.string bx,.string bk,.string bq] 138)).heap.size:=by simp
       obtain ⟨X1,hX1⟩:∃ X1,wr.alloc (.cells #[.string bx,.string bk,.string bq] 138)=X1:=⟨_,rfl⟩
       rw [hX1] at hbX hx1 hxl
       obtain ⟨e0,e1⟩:=BOX.out X1 hbX
       have x0:X1.cell? ⟨wr.heap.size,0,none⟩=some (.string bx):=by simp [World.cell?,hx1]
       have hfind:=find_ex es ge ce bx X1 hel (HE.out.below hbX) HUE.out
       have kq:=fun W=>ky.impl_key bk W z2
       have kn:=fun W=>nm.impl_name bq W z3
       clear g0 he
       go_wp2_with (go_at_call 112; fail)
       refine hfind.mono ?_
       rintro e w3 ⟨⟨p,b3,rfl,hp3,hb3e⟩,hb3⟩
       have hbel3:Below W.heap.size W w3:=hbX.trans (hb3.mono hbX.size)
       have y1:w3.cell? ⟨wr.heap.size,1,none⟩=some (.string bk):=by
        have h1:=(hb3.block wr.heap.size hxl).trans hx1
        simp [World.cell?,h1]
       have y2:w3.cell? ⟨wr.heap.size,2,none⟩=some (.string bq):=by
        have h1:=(hb3.block wr.heap.size hxl).trans hx1
        simp [World.cell?,h1]
       have hkind:=kind_there (l:=es) (fun i e he=>by have:=HAO.out i e he; simp [exOk] at this; exact this.2.1) bx
       have HK3:Hid (b3=true ↔ 0 <= kindOf es bx):=hb3e.trans hkind.symm
       clear hfind hX1 e0 e1 x0 hb3e hkind c0 c1 a0 a1 a2 hx1
       cases b3 with
       | false =>
        have hbad:¬ OkR es bs:=fun h=>by have h1:0 <= kindOf es bx:=(h.bo k _ HG.out).1; have:=HK3.out.2 h1; cases this
        go_wp2
        go_ret
        exact ⟨⟨false,rfl,by simp; exact hbad⟩,hb.trans (hbel3.mono hb.size)⟩
       | true =>
        cases hgk:ky.good bk with
        | false =>
         have hbad:¬ OkR es bs:=fun h=>by have h2:ky.good bk=true:=(h.bo k _ HG.out).2.1; rw [hgk] at h2; cases h2
         simp only [hgk] at kq
         go_wp2_with (go_at_call 113; refine (kq _).mono ?_; rintro e w0 ⟨rfl,hw0⟩; rw [<- hw0]; clear hw0 w0)
         go_ret
         exact ⟨⟨false,rfl,by simp; exact hbad⟩,hb.trans (hbel3.mono hb.size)⟩
        | true =>
         simp only [hgk] at kq
         cases hgq:nm.good bq with
         | false =>
          have hbad:¬ OkR es bs:=fun h=>by have h2:nm.good bq=true:=(h.bo k _ HG.out).2.2; rw [hgq] at h2; cases h2
          simp only [hgq] at kn
          go_wp2_with (first | (go_at_call 113; refine (kq _).mono ?_; rintro e w0 ⟨rfl,hw0⟩; rw [<- hw0]; clear hw0 w0) | (go_at_call 114; refine (kn _).mono ?_; rintro e w0 ⟨rfl,hw0⟩; rw [<- hw0]; clear hw0 w0))
          go_ret
          exact ⟨⟨false,rfl,by simp; exact hbad⟩,hb.trans (hbel3.mono hb.size)⟩
         | true =>
          simp only [hgq] at kn
          have hnext:Hid (∀ (i:Nat) b,i < k+1->bs[i]?=some b->0 <= kindOf es b.x/\ky.good b.k=true/\nm.good b.q=true):=fun i e hi he=>by
           by_cases ei:i=k
           ·subst ei; rw [HG.out] at he; cases he; exact ⟨HK3.out.1 rfl,hgk,hgq⟩
           ·exact hgood.out i e (by omega) he
          go_wp2_with (first | (go_at_call 113; refine (kq _).mono ?_; rintro e w0 ⟨rfl,hw0⟩; rw [<- hw0]; clear hw0 w0) | (go_at_call 114; refine (kn _).mono ?_; rintro e w0 ⟨rfl,hw0⟩; rw [<- hw0]; clear hw0 w0))
          go_roundw
          case rel=>exact ⟨k+1,by omega,by go_num,hnext,hbel3⟩
          case measure=>simp [intOf]; omega
      ·have hall:Hid (OkR es bs):=⟨by omega,by omega,HAO.out,HUE.out,fun i b hb=>hgood.out i b (by have:=(List.getElem?_eq_some_iff.1 hb).1; omega) hb,HUB.out⟩
       go_wp2
       go_ret
       exact ⟨⟨true,rfl,by simp; exact hall.out⟩,hb.trans (hbel.mono hb.size)⟩
end Go.Proofs.YtaoefccgdfcchaaGreat.ri
namespace Go.Proofs.YtaoefccgdfcchaaGreat.ra
open ChangeShapes WideShapes ChangeAt RowKit rr
def wE (e:Ex):Nat:=e.n.size
def SE (w:World) (B:Nat) (a:Option Addr) (l:List Ex):Prop:=l=[] ∨ ∃ b off,a=some ⟨b,off,none⟩/\b < B/\∀ (i:Nat) (e:Ex),l[i]?=some e->w.cell? ⟨b,off+i*2,none⟩=some (.string e.n)/\w.cell? ⟨b,off+i*2+1,none⟩=some (.int .i64 e.k)
def bulkE:List Ex->Nat
 | []=>0
 | x :: r=>wE x+bulkE r
theorem bulkE_snoc (x:Ex):∀ l,bulkE (l++[x])=bulkE l+wE x
 | []=>by simp [bulkE]
 | y :: r=>by simp [bulkE,bulkE_snoc x r]; omega
theorem bulkE_take {l:List Ex} {k:Nat} (h:k < l.length):bulkE (l.take (k+1))=bulkE (l.take k)+wE l[k]:=by
 rw [List.take_succ_eq_append_getElem h,bulkE_snoc]
theorem bulkE_le {l:List Ex} {x:Ex} (h:x ∈ l):wE x <= bulkE l:=by
 induction l with
 | nil=>cases h
 | cons y r ih =>
  simp only [bulkE]
  rcases List.mem_cons.1 h with rfl | h
  ·omega
  ·have:=ih h; omega
theorem sz_oneE (e:Ex) (left:Int) (w:World) (h0:-1 <= left) (h1:left <= 1048576) (hx:e.n.size <= maxLen) :
  Calls Tryz.prog 85 #[.agg #[.string e.n,.int .i64 e.k],.int .i64 left] w fun r w'=>r=.returned (.int .i64 (if left - (wE e:Int) < 0 then -1 else left - (wE e:Int)))/\Below w.heap.size w w':=by
 obtain ⟨n,k⟩:=e
 have hx:n.size <= 9223372036854775807:=hx
 unfold wE
 by_cases hn:left - (n.size:Int) < 0
 ·rw [if_pos hn]
  go_enter Tryz.func85,Tryz.ntmps85
  go_wp2
  go_ret
  exact ⟨rfl,(Below.refl _ _).alloc (Nat.le_refl _) _⟩
 ·rw [if_neg hn]
  go_enter Tryz.func85,Tryz.ntmps85
  go_wp2
  go_ret
  exact ⟨rfl,(Below.refl _ _).alloc (Nat.le_refl _) _⟩
theorem sz_allE (l:List Ex) (a:Option Addr) (cap:Nat) (left:Int) (w:World) (hl:l.length <= maxLen) (hx:∀ e ∈ l,e.n.size <= maxLen) (h0:-1 <= left) (h1:left <= 1048576) (hS:SE w w.heap.size a l) :
  Calls Tryz.prog 37 #[.slice a l.length cap,.int .i64 left] w fun e w'=>∃ r:Int,e=.returned (.int .i64 r)/\(0 <= r->r=left - l.length - bulkE l)/\-1 <= r/\r <= 1048576/\Below w.heap.size w w':=by
 have hl':=hl
 unfold maxLen at hl'
 by_cases hneg:left - l.length < 0
 ·go_enter Tryz.func37,Tryz.ntmps37
  go_wp2
  go_ret
  exact ⟨-1,rfl,by omega,by omega,by omega,Below.refl _ _⟩
 rcases hS with rfl | ⟨b,off,rfl,hlt,hc⟩
 ·go_enter Tryz.func37,Tryz.ntmps37
  go_wp2
  refine wp_loop_rounds 1 ?_
  rw [rounds_succ]
  go_wp2
  go_ret
  exact ⟨_,rfl,fun _=>by simp [bulkE],by simp at hneg; omega,by simp at hneg; omega,Below.refl _ _⟩
 ·have HC:Hid (∀ (i:Nat) (e:Ex),l[i]?=some e->w.cell? ⟨b,off+i*2,none⟩=some (.string e.n)/\w.cell? ⟨b,off+i*2+1,none⟩=some (.int .i64 e.k)):=hc
  have HX:Hid (∀ e ∈ l,e.n.size <= maxLen):=hx
  clear hc hx
  go_enter Tryz.func37,Tryz.ntmps37
  go_wp2
  go_loopw [1,5] (fun y x wr=>∃ k:Nat,k <= l.length/\x=.int .i64 k/\y=.int .i64 (left - l.length - bulkE (l.take k))/\0 <= left - l.length - bulkE (l.take k)/\Below w.heap.size w wr) (fun _ x _=>l.length - (intOf x).toNat)
  case atStart=>exact ⟨0,Nat.zero_le _,rfl,by simp [bulkE],by simp [bulkE]; omega,Below.refl _ _⟩
  case round =>
   obtain ⟨k,hk,rfl,rfl,hr0,hbel⟩:=hrel
   have hbs:=hbel.size
   by_cases hkl:k < l.length
   ·obtain ⟨a0,a1⟩:=HC.out k l[k] (List.getElem?_eq_getElem hkl)
    have c0:=(hbel.cell (p:=⟨b,off+k*2,none⟩) hlt).trans a0
    have c1:=(hbel.cell (p:=⟨b,off+k*2+1,none⟩) hlt).trans a1
    have hxs:=HX.out l[k] (List.getElem_mem hkl)
    have HBK:Hid (bulkE (l.take (k+1))=bulkE (l.take k)+wE l[k]):=bulkE_take hkl
    obtain ⟨⟨en,ek⟩,he⟩:∃ e,l[k]=e:=⟨_,rfl⟩
    rw [he] at c0 c1 hxs HBK
    obtain ⟨m,hm⟩:∃ m,bulkE (l.take k)=m:=⟨_,rfl⟩
    rw [hm] at HBK hr0 ⊢
    have hone:=sz_oneE ⟨en,ek⟩ (left - l.length - m) wr (by omega) (by omega) hxs
    obtain ⟨wt,hwt⟩:∃ wt,wE ⟨en,ek⟩=wt:=⟨_,rfl⟩
    rw [hwt] at hone HBK
    clear hm he hwt a0 a1 hxs
    by_cases hlo:left - l.length - m - wt < 0
    ·rw [if_pos hlo] at hone
     go_wp2_with (go_at_call 85; refine hone.mono ?_; rintro e w1 ⟨rfl,hb1⟩)
     go_ret
     exact ⟨-1,rfl,by omega,by omega,by omega,hbel.trans (hb1.mono hbs)⟩
    ·rw [if_neg hlo] at hone
     go_wp2_with (go_at_call 85; refine hone.mono ?_; rintro e w1 ⟨rfl,hb1⟩)
     go_roundw
     case rel=>exact ⟨k+1,by omega,by go_num,by rw [HBK.out]; congr 1; omega,by rw [HBK.out]; omega,hbel.trans (hb1.mono hbs)⟩
     case measure=>simp [intOf]; omega
   ·obtain rfl:k=l.length:=by omega
    rw [List.take_length] at hr0 ⊢
    go_wp2
    go_ret
    exact ⟨_,rfl,fun _=>rfl,by omega,by omega,hbel⟩
def wB (e:Bi):Nat:=e.x.size+e.k.size+e.q.size
def SB (w:World) (B:Nat) (a:Option Addr) (l:List Bi):Prop:=l=[] ∨ ∃ b off,a=some ⟨b,off,none⟩/\b < B/\∀ (i:Nat) (e:Bi),l[i]?=some e->w.cell? ⟨b,off+i*3,none⟩=some (.string e.x)/\w.cell? ⟨b,off+i*3+1,none⟩=some (.string e.k)/\w.cell? ⟨b,off+i*3+2,none⟩=some (.string e.q)
def bulkB:List Bi->Nat
 | []=>0
 | x :: r=>wB x+bulkB r
theorem bulkB_snoc (x:Bi):∀ l,bulkB (l++[x])=bulkB l+wB x
 | []=>by simp [bulkB]
 | y :: r=>by simp [bulkB,bulkB_snoc x r]; omega
theorem bulkB_take {l:List Bi} {k:Nat} (h:k < l.length):bulkB (l.take (k+1))=bulkB (l.take k)+wB l[k]:=by
 rw [List.take_succ_eq_append_getElem h,bulkB_snoc]
theorem bulkB_le {l:List Bi} {x:Bi} (h:x ∈ l):wB x <= bulkB l:=by
 induction l with
 | nil=>cases h
 | cons y r ih =>
  simp only [bulkB]
  rcases List.mem_cons.1 h with rfl | h
  ·omega
  ·have:=ih h; omega
theorem sz_oneB (e:Bi) (left:Int) (w:World) (h0:-1 <= left) (h1:left <= 1048576) (hx:e.x.size <= maxLen/\e.k.size <= maxLen/\e.q.size <= maxLen) :
  Calls Tryz.prog 86 #[.agg #[.string e.x,.string e.k,.string e.q],.int .i64 left] w fun r w'=>r=.returned (.int .i64 (if left - (wB e:Int) < 0 then -1 else left - (wB e:Int)))/\Below w.heap.size w w':=by
 obtain ⟨x,k,q⟩:=e
 obtain ⟨hx1,hx2,hx3⟩:=hx
 have hx1:x.size <= 9223372036854775807:=hx1
 have hx2:k.size <= 9223372036854775807:=hx2
 have hx3:q.size <= 9223372036854775807:=hx3
 unfold wB
 by_cases h3:left - ((x.size+k.size+q.size:Nat):Int) < 0
 ·rw [if_pos h3]
  by_cases ha:left - (x.size:Int) < 0
  ·go_enter Tryz.func86,Tryz.ntmps86
   go_wp2
   go_ret
   exact ⟨rfl,(Below.refl _ _).alloc (Nat.le_refl _) _⟩
  ·by_cases hb:left - (x.size:Int) - (k.size:Int) < 0
   ·go_enter Tryz.func86,Tryz.ntmps86
    go_wp2
    go_ret
    exact ⟨rfl,(Below.refl _ _).alloc (Nat.le_refl _) _⟩
   ·have hc:left - (x.size:Int) - (k.size:Int) - (q.size:Int) < 0:=by omega
    go_enter Tryz.func86,Tryz.ntmps86
    go_wp2
    go_ret
    exact ⟨rfl,(Below.refl _ _).alloc (Nat.le_refl _) _⟩
 ·rw [if_neg h3]
  have ha:¬ left - (x.size:Int) < 0:=by omega
  have hb:¬ left - (x.size:Int) - (k.size:Int) < 0:=by omega
  have hc:¬ left - (x.size:Int) - (k.size:Int) - (q.size:Int) < 0:=by omega
  have he:left - ((x.size+k.size+q.size:Nat):Int)=left - (x.size:Int) - (k.size:Int) - (q.size:Int):=by omega
  rw [he]
  go_enter Tryz.func86,Tryz.ntmps86
  go_wp2
  go_ret
  exact ⟨rfl,(Below.refl _ _).alloc (Nat.le_refl _) _⟩
theorem sz_allB (l:List Bi) (a:Option Addr) (cap:Nat) (left:Int) (w:World) (hl:l.length <= maxLen) (hx:∀ e ∈ l,e.x.size <= maxLen/\e.k.size <= maxLen/\e.q.size <= maxLen) (h0:-1 <= left) (h1:left <= 1048576) (hS:SB w w.heap.size a l) :
  Calls Tryz.prog 38 #[.slice a l.length cap,.int .i64 left] w fun e w'=>∃ r:Int,e=.returned (.int .i64 r)/\(0 <= r->r=left - l.length - bulkB l)/\-1 <= r/\r <= 1048576/\Below w.heap.size w w':=by
 have hl':=hl
 unfold maxLen at hl'
 by_cases hneg:left - l.length < 0
 ·go_enter Tryz.func38,Tryz.ntmps38
  go_wp2
  go_ret
  exact ⟨-1,rfl,by omega,by omega,by omega,Below.refl _ _⟩
 rcases hS with rfl | ⟨b,off,rfl,hlt,hc⟩
 ·go_enter Tryz.func38,Tryz.ntmps38
  go_wp2
  refine wp_loop_rounds 1 ?_
  rw [rounds_succ]
  go_wp2
  go_ret
  exact ⟨_,rfl,fun _=>by simp [bulkB],by simp at hneg; omega,by simp at hneg; omega,Below.refl _ _⟩
 ·have HC:Hid (∀ (i:Nat) (e:Bi),l[i]?=some e->w.cell? ⟨b,off+i*3,none⟩=some (.string e.x)/\w.cell? ⟨b,off+i*3+1,none⟩=some (.string e.k)/\w.cell? ⟨b,off+i*3+2,none⟩=some (.string e.q)):=hc
  have HX:Hid (∀ e ∈ l,e.x.size <= maxLen/\e.k.size <= maxLen/\e.q.size <= maxLen):=hx
  clear hc hx
  go_enter Tryz.func38,Tryz.ntmps38
  go_wp2
  go_loopw [1,5] (fun y x wr=>∃ k:Nat,k <= l.length/\x=.int .i64 k/\y=.int .i64 (left - l.length - bulkB (l.take k))/\0 <= left - l.length - bulkB (l.take k)/\Below w.heap.size w wr) (fun _ x _=>l.length - (intOf x).toNat)
  case atStart=>exact ⟨0,Nat.zero_le _,rfl,by simp [bulkB],by simp [bulkB]; omega,Below.refl _ _⟩
  case round =>
   obtain ⟨k,hk,rfl,rfl,hr0,hbel⟩:=hrel
   have hbs:=hbel.size
   by_cases hkl:k < l.length
   ·obtain ⟨a0,a1,a2⟩:=HC.out k l[k] (List.getElem?_eq_getElem hkl)
    have c0:=(hbel.cell (p:=⟨b,off+k*3,none⟩) hlt).trans a0
    have c1:=(hbel.cell (p:=⟨b,off+k*3+1,none⟩) hlt).trans a1
    have c2:=(hbel.cell (p:=⟨b,off+k*3+2,none⟩) hlt).trans a2
    have hxs:=HX.out l[k] (List.getElem_mem hkl)
    have HBK:Hid (bulkB (l.take (k+1))=bulkB (l.take k)+wB l[k]):=bulkB_take hkl
    obtain ⟨⟨ex,ek,eq⟩,he⟩:∃ e,l[k]=e:=⟨_,rfl⟩
    rw [he] at c0 c1 c2 hxs HBK
    obtain ⟨m,hm⟩:∃ m,bulkB (l.take k)=m:=⟨_,rfl⟩
    rw [hm] at HBK hr0 ⊢
    have hone:=sz_oneB ⟨ex,ek,eq⟩ (left - l.length - m) wr (by omega) (by omega) hxs
    obtain ⟨wt,hwt⟩:∃ wt,wB ⟨ex,ek,eq⟩=wt:=⟨_,rfl⟩
    rw [hwt] at hone HBK
    clear hm he hwt a0 a1 a2 hxs
    by_cases hlo:left - l.length - m - wt < 0
    ·rw [if_pos hlo] at hone
     go_wp2_with (go_at_call 86; refine hone.mono ?_; rintro e w1 ⟨rfl,hb1⟩)
     go_ret
     exact ⟨-1,rfl,by omega,by omega,by omega,hbel.trans (hb1.mono hbs)⟩
    ·rw [if_neg hlo] at hone
     go_wp2_with (go_at_call 86; refine hone.mono ?_; rintro e w1 ⟨rfl,hb1⟩)
     go_roundw
     case rel=>exact ⟨k+1,by omega,by go_num,by rw [HBK.out]; congr 1; omega,by rw [HBK.out]; omega,hbel.trans (hb1.mono hbs)⟩
     case measure=>simp [intOf]; omega
   ·obtain rfl:k=l.length:=by omega
    rw [List.take_length] at hr0 ⊢
    go_wp2
    go_ret
    exact ⟨_,rfl,fun _=>rfl,by omega,by omega,hbel⟩
end Go.Proofs.YtaoefccgdfcchaaGreat.ra
namespace Go.Proofs.YtaoefccgdfcchaaGreat.rt
open ChangeShapes WideShapes ChangeAt RowKit rr ra
theorem to_oneE (e:Ex) (w:World):Calls Tryz.prog 98 #[.agg #[.string e.n,.int .i64 e.k]] w fun r w'=>r=.returned (.agg #[.string e.n,.int .i64 e.k])/\Below w.heap.size w w':=by
 obtain ⟨en,ek⟩:=e
 go_enter Tryz.func98,Tryz.ntmps98
 go_wp2
 refine bodyPost_ret (v:=.agg #[.string en,.int .i64 ek]) (by simp [results,Tryz.results98,go_sem]) rfl ⟨rfl,?_⟩
 repeat (first | exact Below.refl _ _ | refine Below.setCell ?_ ?_ _ | refine Below.alloc ?_ ?_ _)
 all_goals (simp; try omega)
theorem to_oneB (e:Bi) (w:World):Calls Tryz.prog 99 #[.agg #[.string e.x,.string e.k,.string e.q]] w fun r w'=>r=.returned (.agg #[.string e.x,.string e.k,.string e.q])/\Below w.heap.size w w':=by
 obtain ⟨ex,ek,eq⟩:=e
 go_enter Tryz.func99,Tryz.ntmps99
 go_wp2
 refine bodyPost_ret (v:=.agg #[.string ex,.string ek,.string eq]) (by simp [results,Tryz.results99,go_sem]) rfl ⟨rfl,?_⟩
 repeat (first | exact Below.refl _ _ | refine Below.setCell ?_ ?_ _ | refine Below.alloc ?_ ?_ _)
 all_goals (simp; try omega)
theorem infoE:(Tryz.prog.info? 137).map (fun i=>(i.zero,i.size,i.bytes))=some (some (.agg #[.string ByteArray.empty,.int .i64 0]),2,24):=by kernel_rfl
def FE (w:World) (g:Nat) (l:List Ex) (k:Nat):Prop:=∃ cur,w.heap[g]?=some (.cells cur 137 (0,0))/\l.length*2 <= cur.size/\∀ (i:Nat) (e:Ex),i < k->l[i]?=some e->cur[i*2]?=some (.string e.n)/\cur[i*2+1]?=some (.int .i64 e.k)
theorem FE.at {w:World} {g k:Nat} {l:List Ex} (h:FE w g l k) (o:Nat) (ho:o < l.length*2):∃ v,w.cell? ⟨g,o,none⟩=some v:=by
 obtain ⟨cur,hg,hs,_⟩:=h
 exact ⟨cur[o]'(by omega),by simp [World.cell?,hg,Array.getElem?_eq_getElem (show o < cur.size by omega)]⟩
theorem FE.free {w:World} {g k:Nat} {l:List Ex} (h:FE w g l k) (o:Nat):w.frozen? ⟨g,o,none⟩=false:=by
 obtain ⟨cur,hg,_⟩:=h
 simp [World.frozen?,hg]
theorem FE.below {w w':World} {g k B:Nat} {l:List Ex} (h:FE w g l k) (hb:Below B w w') (hg:g < B):FE w' g l k:=by
 obtain ⟨cur,h1,h2⟩:=h
 exact ⟨cur,by rw [hb.block g hg]; exact h1,h2⟩
theorem FE.lt {w:World} {g k:Nat} {l:List Ex} (h:FE w g l k):g < w.heap.size:=by
 obtain ⟨cur,hg,_⟩:=h
 exact (Array.getElem?_eq_some_iff.1 hg).1
theorem FE.set {w:World} {g k:Nat} {l:List Ex} {e:Ex} (h:FE w g l k) (he:l[k]?=some e):FE ((w.setCell ⟨g,k*2,none⟩ (.string e.n)).setCell ⟨g,k*2+1,none⟩ (.int .i64 e.k)) g l (k+1):=by
 obtain ⟨cur,h1,h2,h3⟩:=h
 have hk:=(List.getElem?_eq_some_iff.1 he).1
 have s0:=heap_setCell_same w g (k*2) cur _ (.string e.n) h1
 have s1:=heap_setCell_same (w.setCell ⟨g,k*2,none⟩ (.string e.n)) g (k*2+1) (cur.setIfInBounds (k*2) (.string e.n)) _ (.int .i64 e.k) s0
 refine ⟨_,s1,by simpa using h2,fun i f hi hf=>?_⟩
 by_cases ei:i=k
 ·subst ei
  rw [he] at hf
  cases hf
  simp [Array.getElem?_setIfInBounds]
  omega
 ·have hold:=h3 i f (by omega) hf
  simp only [Array.getElem?_setIfInBounds]
  repeat rw [if_neg (by omega)]
  exact hold
theorem FE.all {w:World} {g:Nat} {l:List Ex} (h:FE w g l l.length):RE w g l:=by
 have hlt:=h.lt
 obtain ⟨cur,hg,_,hc⟩:=h
 refine ⟨hlt,fun i e he=>?_⟩
 have hx:=hc i e (List.getElem?_eq_some_iff.1 he).1 he
 simp only [World.cell?,hg]
 simpa using hx
theorem madeE (w:World) (l:List Ex):FE (w.alloc (.cells (madeCells #[.string ByteArray.empty,.int .i64 0] (l.length*2)) 137)) w.heap.size l 0 :=
 ⟨_,heap_alloc_new w _,Nat.le_of_eq (size_madeCells _ _).symm,fun i e hi=>by omega⟩
theorem to_allE (l:List Ex) (a:Option Addr) (cap:Nat) (w:World) (hl:l.length <= 1048576) (hS:SE w w.heap.size a l) :
  Calls Tryz.prog 47 #[.slice a l.length cap] w fun e w'=>e=.returned (.slice (some ⟨w.heap.size,0,none⟩) l.length l.length)/\RE w' w.heap.size l/\Below w.heap.size w w':=by
 obtain ⟨i0,hi,hz0,hz1,hz2⟩:∃ i0,Tryz.prog.info? 137=some i0/\i0.zero=some (.agg #[.string ByteArray.empty,.int .i64 0])/\i0.size=2/\i0.bytes=24:=by
  have h:=infoE
  cases hh:Tryz.prog.info? 137 with
  | none=>rw [hh] at h; cases h
  | some i=>rw [hh] at h; simp at h; exact ⟨i,rfl,h.1,h.2.1,h.2.2⟩
 have hmk:=run_makeSlice (P:=Tryz.prog) w 31 137 i0 _ Tryz.underlying31 hi hz0 .i64 .i64 (l.length:Int) (l.length:Int) (by omega) (Int.le_refl _) (by rw [hz1]; simp; omega) (by rw [hz2]; omega) (by omega)
 rw [hz1,show ((l.length:Int)).toNat=l.length by omega] at hmk
 have hmk2:(Instr.makeSlice 31 (.int .i64 (l.length:Int)) (.int .i64 (l.length:Int))).run Tryz.prog w=.ok (.slice (some ⟨w.heap.size,0,none⟩) l.length l.length) (w.alloc (.cells (madeCells #[.string ByteArray.empty,.int .i64 0] (l.length*2)) 137)):=hmk
 have hf0:=madeE w l
 have hb0:Below w.heap.size w (w.alloc (.cells (madeCells #[.string ByteArray.empty,.int .i64 0] (l.length*2)) 137)):=(Below.refl _ _).alloc (Nat.le_refl _) _
 obtain ⟨W,hW⟩:∃ W,w.alloc (.cells (madeCells #[.string ByteArray.empty,.int .i64 0] (l.length*2)) 137)=W:=⟨_,rfl⟩
 rw [hW] at hmk2 hf0 hb0
 have HF0:Hid (FE W w.heap.size l 0):=hf0
 clear hmk hW hf0
 rcases hS with rfl | ⟨b,off,rfl,hlt,hc⟩
 ·have hmk3:(Instr.makeSlice 31 (.int .i64 0) (.int .i64 0)).run Tryz.prog w=.ok (.slice (some ⟨w.heap.size,0,none⟩) 0 0) W:=by simpa using hmk2
  clear hmk2
  go_enter Tryz.func47,Tryz.ntmps47
  go_wp2
  refine wp_loop_rounds 1 ?_
  rw [rounds_succ]
  go_wp2
  go_ret
  exact ⟨rfl,HF0.out.all,hb0⟩
 ·have HC:Hid (∀ (i:Nat) (e:Ex),l[i]?=some e->w.cell? ⟨b,off+i*2,none⟩=some (.string e.n)/\w.cell? ⟨b,off+i*2+1,none⟩=some (.int .i64 e.k)):=hc
  clear hc
  go_enter Tryz.func47,Tryz.ntmps47
  go_wp2
  go_loopw [4] (fun x wr=>∃ k:Nat,k <= l.length/\x=.int .i64 k/\Below w.heap.size w wr/\Hid (FE wr w.heap.size l k)) (fun x _=>l.length - (intOf x).toNat)
  case atStart=>exact ⟨0,Nat.zero_le _,rfl,hb0,HF0⟩
  case round =>
   obtain ⟨k,hk,rfl,hbel,hf⟩:=hrel
   have hbs:=hbel.size
   by_cases hkl:k < l.length
   ·have g0:l[k]?=some l[k]:=List.getElem?_eq_getElem hkl
    obtain ⟨a0,a1⟩:=HC.out k l[k] g0
    have c0:=(hbel.cell (p:=⟨b,off+k*2,none⟩) hlt).trans a0
    have c1:=(hbel.cell (p:=⟨b,off+k*2+1,none⟩) hlt).trans a1
    have HG:Hid (l[k]?=some l[k]):=g0
    obtain ⟨⟨en,ek⟩,he⟩:∃ e,l[k]=e:=⟨_,rfl⟩
    rw [he] at c0 c1 HG
    have hone:=to_oneE ⟨en,ek⟩ wr
    have hfl:=hf.out.lt
    clear g0 he a0 a1
    go_wp2_with (go_at_call 98; refine hone.mono ?_; rintro e w1 ⟨rfl,hb1⟩; have hf1:=hf.out.below hb1 hfl; obtain ⟨v0,g0⟩:=hf1.at (k*2) (by omega); have z0:=hf1.free (k*2); obtain ⟨v1,g1⟩:=hf1.at (k*2+1) (by omega); have z1:=hf1.free (k*2+1); have HN:Hid (FE ((w1.setCell ⟨w.heap.size,k*2,none⟩ (.string en)).setCell ⟨w.heap.size,k*2+1,none⟩ (.int .i64 ek)) w.heap.size l (k+1)):=FE.set (e:=⟨en,ek⟩) hf1 HG.out; clear hf1)
    go_roundw
    case rel=>exact ⟨k+1,by omega,by go_num,(((hbel.trans (hb1.mono hbs)).setCell (Nat.le_refl _) _).setCell (Nat.le_refl _) _),HN⟩
    case measure=>simp [intOf]; omega
   ·obtain rfl:k=l.length:=by omega
    go_wp2
    go_ret
    exact ⟨rfl,hf.out.all,hbel⟩
theorem infoB:(Tryz.prog.info? 138).map (fun i=>(i.zero,i.size,i.bytes))=some (some (.agg #[.string ByteArray.empty,.string ByteArray.empty,.string ByteArray.empty]),3,48):=by kernel_rfl
def FB (w:World) (g:Nat) (l:List Bi) (k:Nat):Prop:=∃ cur,w.heap[g]?=some (.cells cur 138 (0,0))/\l.length*3 <= cur.size/\∀ (i:Nat) (e:Bi),i < k->l[i]?=some e->cur[i*3]?=some (.string e.x)/\cur[i*3+1]?=some (.string e.k)/\cur[i*3+2]?=some (.string e.q)
theorem FB.at {w:World} {g k:Nat} {l:List Bi} (h:FB w g l k) (o:Nat) (ho:o < l.length*3):∃ v,w.cell? ⟨g,o,none⟩=some v:=by
 obtain ⟨cur,hg,hs,_⟩:=h
 exact ⟨cur[o]'(by omega),by simp [World.cell?,hg,Array.getElem?_eq_getElem (show o < cur.size by omega)]⟩
theorem FB.free {w:World} {g k:Nat} {l:List Bi} (h:FB w g l k) (o:Nat):w.frozen? ⟨g,o,none⟩=false:=by
 obtain ⟨cur,hg,_⟩:=h
 simp [World.frozen?,hg]
theorem FB.below {w w':World} {g k B:Nat} {l:List Bi} (h:FB w g l k) (hb:Below B w w') (hg:g < B):FB w' g l k:=by
 obtain ⟨cur,h1,h2⟩:=h
 exact ⟨cur,by rw [hb.block g hg]; exact h1,h2⟩
theorem FB.lt {w:World} {g k:Nat} {l:List Bi} (h:FB w g l k):g < w.heap.size:=by
 obtain ⟨cur,hg,_⟩:=h
 exact (Array.getElem?_eq_some_iff.1 hg).1
theorem FB.set {w:World} {g k:Nat} {l:List Bi} {e:Bi} (h:FB w g l k) (he:l[k]?=some e):FB (((w.setCell ⟨g,k*3,none⟩ (.string e.x)).setCell ⟨g,k*3+1,none⟩ (.string e.k)).setCell ⟨g,k*3+2,none⟩ (.string e.q)) g l (k+1):=by
 obtain ⟨cur,h1,h2,h3⟩:=h
 have hk:=(List.getElem?_eq_some_iff.1 he).1
 have s0:=heap_setCell_same w g (k*3) cur _ (.string e.x) h1
 have s1:=heap_setCell_same (w.setCell ⟨g,k*3,none⟩ (.string e.x)) g (k*3+1) (cur.setIfInBounds (k*3) (.string e.x)) _ (.string e.k) s0
 have s2:=heap_setCell_same ((w.setCell ⟨g,k*3,none⟩ (.string e.x)).setCell ⟨g,k*3+1,none⟩ (.string e.k)) g (k*3+2) ((cur.setIfInBounds (k*3) (.string e.x)).setIfInBounds (k*3+1) (.string e.k)) _ (.string e.q) s1
 refine ⟨_,s2,by simpa using h2,fun i f hi hf=>?_⟩
 by_cases ei:i=k
 ·subst ei
  rw [he] at hf
  cases hf
  simp [Array.getElem?_setIfInBounds]
  omega
 ·have hold:=h3 i f (by omega) hf
  simp only [Array.getElem?_setIfInBounds]
  repeat rw [if_neg (by omega)]
  exact hold
theorem FB.all {w:World} {g:Nat} {l:List Bi} (h:FB w g l l.length):RB w g l:=by
 have hlt:=h.lt
 obtain ⟨cur,hg,_,hc⟩:=h
 refine ⟨hlt,fun i e he=>?_⟩
 have hx:=hc i e (List.getElem?_eq_some_iff.1 he).1 he
 simp only [World.cell?,hg]
 simpa using hx
theorem madeB (w:World) (l:List Bi):FB (w.alloc (.cells (madeCells #[.string ByteArray.empty,.string ByteArray.empty,.string ByteArray.empty] (l.length*3)) 138)) w.heap.size l 0 :=
 ⟨_,heap_alloc_new w _,Nat.le_of_eq (size_madeCells _ _).symm,fun i e hi=>by omega⟩
theorem to_allB (l:List Bi) (a:Option Addr) (cap:Nat) (w:World) (hl:l.length <= 1048576) (hS:SB w w.heap.size a l) :
  Calls Tryz.prog 48 #[.slice a l.length cap] w fun e w'=>e=.returned (.slice (some ⟨w.heap.size,0,none⟩) l.length l.length)/\RB w' w.heap.size l/\Below w.heap.size w w':=by
 obtain ⟨i0,hi,hz0,hz1,hz2⟩:∃ i0,Tryz.prog.info? 138=some i0/\i0.zero=some (.agg #[.string ByteArray.empty,.string ByteArray.empty,.string ByteArray.empty])/\i0.size=3/\i0.bytes=48:=by
  have h:=infoB
  cases hh:Tryz.prog.info? 138 with
  | none=>rw [hh] at h; cases h
  | some i=>rw [hh] at h; simp at h; exact ⟨i,rfl,h.1,h.2.1,h.2.2⟩
 have hmk:=run_makeSlice (P:=Tryz.prog) w 32 138 i0 _ Tryz.underlying32 hi hz0 .i64 .i64 (l.length:Int) (l.length:Int) (by omega) (Int.le_refl _) (by rw [hz1]; simp; omega) (by rw [hz2]; omega) (by omega)
 rw [hz1,show ((l.length:Int)).toNat=l.length by omega] at hmk
 have hmk2:(Instr.makeSlice 32 (.int .i64 (l.length:Int)) (.int .i64 (l.length:Int))).run Tryz.prog w=.ok (.slice (some ⟨w.heap.size,0,none⟩) l.length l.length) (w.alloc (.cells (madeCells #[.string ByteArray.empty,.string ByteArray.empty,.string ByteArray.empty] (l.length*3)) 138)):=hmk
 have hf0:=madeB w l
 have hb0:Below w.heap.size w (w.alloc (.cells (madeCells #[.string ByteArray.empty,.string ByteArray.empty,.string ByteArray.empty] (l.length*3)) 138)):=(Below.refl _ _).alloc (Nat.le_refl _) _
 obtain ⟨W,hW⟩:∃ W,w.alloc (.cells (madeCells #[.string ByteArray.empty,.string ByteArray.empty,.string ByteArray.empty] (l.length*3)) 138)=W:=⟨_,rfl⟩
 rw [hW] at hmk2 hf0 hb0
 have HF0:Hid (FB W w.heap.size l 0):=hf0
 clear hmk hW hf0
 rcases hS with rfl | ⟨b,off,rfl,hlt,hc⟩
 ·have hmk3:(Instr.makeSlice 32 (.int .i64 0) (.int .i64 0)).run Tryz.prog w=.ok (.slice (some ⟨w.heap.size,0,none⟩) 0 0) W:=by simpa using hmk2
  clear hmk2
  go_enter Tryz.func48,Tryz.ntmps48
  go_wp2
  refine wp_loop_rounds 1 ?_
  rw [rounds_succ]
  go_wp2
  go_ret
  exact ⟨rfl,HF0.out.all,hb0⟩
 ·have HC:Hid (∀ (i:Nat) (e:Bi),l[i]?=some e->w.cell? ⟨b,off+i*3,none⟩=some (.string e.x)/\w.cell? ⟨b,off+i*3+1,none⟩=some (.string e.k)/\w.cell? ⟨b,off+i*3+2,none⟩=some (.string e.q)):=hc
  clear hc
  go_enter Tryz.func48,Tryz.ntmps48
  go_wp2
  go_loopw [4] (fun x wr=>∃ k:Nat,k <= l.length/\x=.int .i64 k/\Below w.heap.size w wr/\Hid (FB wr w.heap.size l k)) (fun x _=>l.length - (intOf x).toNat)
  case atStart=>exact ⟨0,Nat.zero_le _,rfl,hb0,HF0⟩
  case round =>
   obtain ⟨k,hk,rfl,hbel,hf⟩:=hrel
   have hbs:=hbel.size
   by_cases hkl:k < l.length
   ·have g0:l[k]?=some l[k]:=List.getElem?_eq_getElem hkl
    obtain ⟨a0,a1,a2⟩:=HC.out k l[k] g0
    have c0:=(hbel.cell (p:=⟨b,off+k*3,none⟩) hlt).trans a0
    have c1:=(hbel.cell (p:=⟨b,off+k*3+1,none⟩) hlt).trans a1
    have c2:=(hbel.cell (p:=⟨b,off+k*3+2,none⟩) hlt).trans a2
    have HG:Hid (l[k]?=some l[k]):=g0
    obtain ⟨⟨ex,ek,eq⟩,he⟩:∃ e,l[k]=e:=⟨_,rfl⟩
    rw [he] at c0 c1 c2 HG
    have hone:=to_oneB ⟨ex,ek,eq⟩ wr
    have hfl:=hf.out.lt
    clear g0 he a0 a1 a2
    go_wp2_with (go_at_call 99; refine hone.mono ?_; rintro e w1 ⟨rfl,hb1⟩; have hf1:=hf.out.below hb1 hfl; obtain ⟨v0,g0⟩:=hf1.at (k*3) (by omega); have z0:=hf1.free (k*3); obtain ⟨v1,g1⟩:=hf1.at (k*3+1) (by omega); have z1:=hf1.free (k*3+1); obtain ⟨v2,g2⟩:=hf1.at (k*3+2) (by omega); have z2:=hf1.free (k*3+2); have HN:Hid (FB (((w1.setCell ⟨w.heap.size,k*3,none⟩ (.string ex)).setCell ⟨w.heap.size,k*3+1,none⟩ (.string ek)).setCell ⟨w.heap.size,k*3+2,none⟩ (.string eq)) w.heap.size l (k+1)):=FB.set (e:=⟨ex,ek,eq⟩) hf1 HG.out; clear hf1)
    go_roundw
    case rel=>exact ⟨k+1,by omega,by go_num,((((hbel.trans (hb1.mono hbs)).setCell (Nat.le_refl _) _).setCell (Nat.le_refl _) _).setCell (Nat.le_refl _) _),HN⟩
    case measure=>simp [intOf]; omega
   ·obtain rfl:k=l.length:=by omega
    go_wp2
    go_ret
    exact ⟨rfl,hf.out.all,hbel⟩
end Go.Proofs.YtaoefccgdfcchaaGreat.rt
