/- RouteRows, RouteFind, QuietIn, RouteSearch, RouteOrder. -/
import Derived.Test.YtaoefccgdfcchaaGreatKq04
import Derived.Deep.RegionWith
import Derived.BigRegion
import Derived.Laws.EntriesVeiled
import Derived.BigQuiet
set_option maxRecDepth 100000
set_option maxHeartbeats 8000000
set_option linter.unusedVariables false
namespace Go.Proofs.YtaoefccgdfcchaaGreat.rr
open ChangeShapes WideShapes ChangeAt RowKit rc
structure Ex where
 n:ByteArray
 k:Int
structure Bi where
 x:ByteArray
 k:ByteArray
 q:ByteArray
def RE (w:World) (g:Nat) (l:List Ex):Prop:=g < w.heap.size/\∀ (i:Nat) (e:Ex),l[i]?=some e->w.cell? ⟨g,i*2,none⟩=some (.string e.n)/\w.cell? ⟨g,i*2+1,none⟩=some (.int .i64 e.k)
def RB (w:World) (g:Nat) (l:List Bi):Prop:=g < w.heap.size/\∀ (i:Nat) (b:Bi),l[i]?=some b->w.cell? ⟨g,i*3,none⟩=some (.string b.x)/\w.cell? ⟨g,i*3+1,none⟩=some (.string b.k)/\w.cell? ⟨g,i*3+2,none⟩=some (.string b.q)
theorem RE.below {w w':World} {g:Nat} {l:List Ex} (h:RE w g l) (hb:Below w.heap.size w w'):RE w' g l :=
 ⟨Nat.lt_of_lt_of_le h.1 hb.size,fun i e he=>by
  obtain ⟨h1,h2⟩:=h.2 i e he
  exact ⟨(hb.cell (p:=⟨g,i*2,none⟩) h.1).trans h1,(hb.cell (p:=⟨g,i*2+1,none⟩) h.1).trans h2⟩⟩
theorem RB.below {w w':World} {g:Nat} {l:List Bi} (h:RB w g l) (hb:Below w.heap.size w w'):RB w' g l :=
 ⟨Nat.lt_of_lt_of_le h.1 hb.size,fun i e he=>by
  obtain ⟨h1,h2,h3⟩:=h.2 i e he
  exact ⟨(hb.cell (p:=⟨g,i*3,none⟩) h.1).trans h1,(hb.cell (p:=⟨g,i*3+1,none⟩) h.1).trans h2,(hb.cell (p:=⟨g,i*3+2,none⟩) h.1).trans h3⟩⟩
def exOk (e:Ex):Bool:=nm.good e.n && decide (0 <= e.k/\e.k <= 2)
theorem exchange_ok (e:Ex) (w:World) (hs:e.n.size <= 1048576):Calls Tryz.prog 107 #[.agg #[.string e.n,.int .i64 e.k]] w fun r w'=>r=.returned (.bool (exOk e))/\Below w.heap.size w w':=by
 obtain ⟨n,k⟩:=e
 have hn:=fun W=>nm.impl_name n W hs
 unfold exOk
 cases hg:nm.good n with
 | false =>
  simp only [hg] at hn
  clear hg
  go_enter Tryz.func107,Tryz.ntmps107
  go_wp2_with (go_at_call 114; refine (hn _).mono ?_; rintro e w0 ⟨rfl,hw0⟩; rw [<- hw0]; clear hw0 w0)
  go_ret
  exact ⟨rfl,(Below.refl _ _).alloc (Nat.le_refl _) _⟩
 | true =>
  simp only [hg] at hn
  clear hg
  by_cases h0:0 <= k
  ·by_cases h2:k <= 2
   ·go_enter Tryz.func107,Tryz.ntmps107
    go_wp2_with (go_at_call 114; refine (hn _).mono ?_; rintro e w0 ⟨rfl,hw0⟩; rw [<- hw0]; clear hw0 w0)
    go_ret
    exact ⟨by simp [h0,h2],(Below.refl _ _).alloc (Nat.le_refl _) _⟩
   ·go_enter Tryz.func107,Tryz.ntmps107
    go_wp2_with (go_at_call 114; refine (hn _).mono ?_; rintro e w0 ⟨rfl,hw0⟩; rw [<- hw0]; clear hw0 w0)
    go_ret
    exact ⟨by simp; omega,(Below.refl _ _).alloc (Nat.le_refl _) _⟩
  ·go_enter Tryz.func107,Tryz.ntmps107
   go_wp2_with (go_at_call 114; refine (hn _).mono ?_; rintro e w0 ⟨rfl,hw0⟩; rw [<- hw0]; clear hw0 w0)
   go_ret
   exact ⟨by simp; omega,(Below.refl _ _).alloc (Nat.le_refl _) _⟩
def before (a b:Bi):Bool:=if a.x=b.x then (if a.k=b.k then lt a.q b.q else lt a.k b.k) else lt a.x b.x
theorem ne_of {a b:ByteArray} (h:a ≠ b):(a.toList == b.toList)=false:=by simp; exact fun e=>h (of_same e)
theorem spec_before (a b:Bi) (w:World):Calls Tryz.prog 97 #[.agg #[.string a.x,.string a.k,.string a.q],.agg #[.string b.x,.string b.k,.string b.q]] w fun r w'=>r=.returned (.bool (before a b))/\Below w.heap.size w w':=by
 obtain ⟨ax,ak,aq⟩:=a
 obtain ⟨bx,bk,bq⟩:=b
 have hb:Below w.heap.size w ((w.alloc (.cells #[.string ax,.string ak,.string aq] 138)).alloc (.cells #[.string bx,.string bk,.string bq] 138)):=((Below.refl _ _).alloc (Nat.le_refl _) _).alloc (by simp) _
 by_cases hx:ax=bx
 ·subst hx
  by_cases hk:ak=bk
  ·subst hk
   have e:before ⟨ax,ak,aq⟩ ⟨ax,ak,bq⟩=lt aq bq:=by simp [before]
   rw [e]
   go_enter Tryz.func97,Tryz.ntmps97
   go_wp2
   go_ret
   exact ⟨rfl,hb⟩
  ·have e:before ⟨ax,ak,aq⟩ ⟨ax,bk,bq⟩=lt ak bk:=by simp [before,hk]
   have n1:=ne_of hk
   have n2:¬ ak.toList=bk.toList:=by simpa using n1
   rw [e]
   go_enter Tryz.func97,Tryz.ntmps97
   go_wp2
   go_ret
   exact ⟨rfl,hb⟩
 ·have e:before ⟨ax,ak,aq⟩ ⟨bx,bk,bq⟩=lt ax bx:=by simp [before,hx]
  have n1:=ne_of hx
  have n2:¬ ax.toList=bx.toList:=by simpa using n1
  rw [e]
  go_enter Tryz.func97,Tryz.ntmps97
  go_wp2
  go_ret
  exact ⟨rfl,hb⟩
def kindOf (l:List Ex) (name:ByteArray):Int:=match l.find? (fun e=>decide (e.n=name)) with | some e=>e.k | none=>-1
theorem kind_at {l:List Ex} {name:ByteArray} {i:Nat} {e:Ex} (hno:∀ j f,j < i->l[j]?=some f->f.n ≠ name) (hi:l[i]?=some e) (he:e.n=name):kindOf l name=e.k:=by
 have:l.find? (fun e=>decide (e.n=name))=some e:=by
  rw [List.find?_eq_some_iff_getElem]
  obtain ⟨hlt,hget⟩:=List.getElem?_eq_some_iff.1 hi
  refine ⟨by simpa using he,i,hlt,hget,fun j hj=>?_⟩
  simpa using hno j l[j] hj (List.getElem?_eq_getElem (by omega))
 unfold kindOf
 rw [this]
theorem kind_none {l:List Ex} {name:ByteArray} (hno:∀ (j:Nat) f,l[j]?=some f->f.n ≠ name):kindOf l name=-1:=by
 have:l.find? (fun e=>decide (e.n=name))=none:=by
  rw [List.find?_eq_none]
  intro e he
  obtain ⟨j,hj⟩:=List.mem_iff_getElem?.1 he
  simpa using hno j e hj
 unfold kindOf
 rw [this]
theorem spec_kind (l:List Ex) (g c:Nat) (ba:Option Addr) (m cb:Nat) (name:ByteArray) (w:World) (hl:l.length <= 1048576) (hE:RE w g l) :
  Calls Tryz.prog 95 #[.agg #[.slice (some ⟨g,0,none⟩) l.length c,.slice ba m cb],.string name] w fun r w'=>r=.returned (.int .i64 (kindOf l name))/\Below w.heap.size w w':=by
 have hb:Below w.heap.size w (w.alloc (.cells #[.slice (some ⟨g,0,none⟩) l.length c,.slice ba m cb] 34)):=(Below.refl _ _).alloc (Nat.le_refl _) _
 have hE2:=hE.below hb
 have c0:(w.alloc (.cells #[.slice (some ⟨g,0,none⟩) l.length c,.slice ba m cb] 34)).cell? ⟨w.heap.size,0,none⟩=some (.slice (some ⟨g,0,none⟩) l.length c):=by simp
 obtain ⟨W,hW⟩:∃ W,w.alloc (.cells #[.slice (some ⟨g,0,none⟩) l.length c,.slice ba m cb] 34)=W:=⟨_,rfl⟩
 rw [hW] at hb hE2 c0
 have HE:Hid (RE W g l):=hE2
 clear hE hE2
 go_enter Tryz.func95,Tryz.ntmps95
 go_wp2
 clear hW
 go_loop [5] (fun v=>∃ k:Nat,k <= l.length/\v=.int .i64 k/\Hid (∀ (j:Nat) f,j < k->l[j]?=some f->f.n ≠ name)) (fun v=>l.length - (intOf v).toNat)
 case atStart=>exact ⟨0,Nat.zero_le _,rfl,fun j f hj=>by omega⟩
 case round =>
  obtain ⟨k,hk,rfl,hno⟩:=hrel
  by_cases hkl:k < l.length
  ·have hget:l[k]?=some l[k]:=List.getElem?_eq_getElem hkl
   obtain ⟨cn,ck⟩:=HE.out.2 k l[k] hget
   have HG:Hid (l[k]?=some l[k]):=hget
   obtain ⟨⟨en,ek⟩,he⟩:∃ e,l[k]=e:=⟨_,rfl⟩
   rw [he] at cn ck HG
   clear hget he
   by_cases hen:en=name
   ·subst hen
    have hfin:=kind_at hno.out HG.out rfl
    go_wp2
    go_ret
    exact ⟨rfl,hb⟩
   ·have n1:=ne_of hen
    have n2:¬ en.toList=name.toList:=by simpa using n1
    go_wp2
    go_round
    case rel =>
     refine ⟨k+1,by omega,by go_num,fun j f hj hf=>?_⟩
     by_cases e:j=k
     ·subst e
      rw [HG.out] at hf
      cases hf
      exact hen
     ·exact hno.out j f (by omega) hf
    case measure=>simp [intOf]; omega
  ·obtain rfl:k=l.length:=by omega
   have hfin:=kind_none (l:=l) (name:=name) (fun j f hf=>hno.out j f (List.getElem?_eq_some_iff.1 hf).1 hf)
   go_wp2
   go_ret
   exact ⟨rfl,hb⟩
def cmpB (a b:Bi):Int:=or3 (cmpT a.x b.x) (cmpT a.k b.k) (cmpT a.q b.q)
def Cl (W:World) (r:Obj) (L:Nat->Bool) (w:World):Prop:=(L 15=false/\w=W) ∨ (L 15=true/\w=W.alloc r)
theorem cl_more {W:World} {r:Obj} {L:Nat->Bool} {w:World} {i:Nat} (h:Cl W r L w) (hi:i ≠ 15):Cl W r (dn.more L i) w:=by
 have e:dn.more L i 15=L 15:=by simp [dn.more]; omega
 unfold Cl
 rw [e]
 exact h
theorem st_quiet {fin:Act} {W:World} {r:Obj} {i:Nat} {o:Oper} (hi:i ≠ 15) (v:Value) (hd:∀ d,o.dst=some d->fin.tmps[d]?=some v)
  (h:∀ w,(w=W ∨ w=W.alloc r)->(execOp fin.eval o).run Tryz.prog w=.ok (.value v) w):dn.Step Tryz.prog fin (Cl W r) i o:=by
 intro L w _ h0 hC
 refine ⟨v,hd,?_⟩
 have hw:w=W ∨ w=W.alloc r:=by rcases hC with ⟨_,e⟩ | ⟨_,e⟩ <;> simp [e]
 rw [h w hw]
 exact ⟨rfl,cl_more hC hi⟩
theorem st_cmp {fin:Act} {W:World} {r:Obj} {i:Nat} {o:Oper} (hi:i ≠ 15) (a b:ByteArray) (hd:∀ d,o.dst=some d->fin.tmps[d]?=some (.int .i64 (cmpT a b)))
  (h:∀ w,(execOp fin.eval o).run Tryz.prog w=.ok (.enter 115 #[.string a,.string b]) w):dn.Step Tryz.prog fin (Cl W r) i o:=by
 intro L w _ h0 hC
 refine ⟨.int .i64 (cmpT a b),hd,?_⟩
 rw [h w]
 refine (cmpS a b w).mono ?_
 rintro e w' ⟨he,hw⟩
 exact ⟨he,by rw [hw]; exact cl_more hC hi⟩
theorem at_new (w:World) (cs:Array Value) (t:TypeId) (i:Nat) (v:Value) (h:cs[i]?=some v):(w.alloc (.cells cs t)).cell? ⟨w.heap.size,i,none⟩=some v:=by
 have:=heap_alloc_new w (.cells cs t)
 simp only [World.cell?,this]
 simp [h]
theorem done15 {o:Oper} {L:Nat->Bool} (he:(o.after.any fun e=>Region.binds .any e && e.on == 15)=true) (hw:∀ e ∈ o.after,Region.binds .any e=true->L e.on=true):L 15=true:=by
 obtain ⟨e,hem,hb⟩:=Array.any_eq_true'.1 he
 simp only [Bool.and_eq_true,beq_iff_eq] at hb
 have:=hw e hem hb.1
 rwa [hb.2] at this
theorem st_or {fin:Act} {W:World} {r:Obj} {i:Nat} {o:Oper} (hi:i ≠ 15) (he:(o.after.any fun e=>Region.binds .any e && e.on == 15)=true) (args:Array Value) (v:Value) (hd:∀ d,o.dst=some d->fin.tmps[d]?=some v)
  (h:∀ w,(execOp fin.eval o).run Tryz.prog w=.ok (.enter 142 args) w) (hc:Calls Tryz.prog 142 args (W.alloc r) fun e w'=>e=.returned v/\w'=W.alloc r):dn.Step Tryz.prog fin (Cl W r) i o:=by
 intro L w hw h0 hC
 have h15:=done15 he hw
 refine ⟨v,hd,?_⟩
 rcases hC with ⟨h1,_⟩ | ⟨_,rfl⟩
 ·rw [h15] at h1; cases h1
 ·rw [h]
  refine hc.mono ?_
  rintro e w2 ⟨he2,hw2⟩
  exact ⟨he2,by rw [hw2]; exact cl_more (Or.inr ⟨h15,rfl⟩) hi⟩
def finB (ax ak aq bx bk bq:ByteArray) (A B R:Nat):Act:=Act.mk (tmps:=#[.agg #[.string ax,.string ak,.string aq],.agg #[.string bx,.string bk,.string bq],.pointer (some ⟨A,0,none⟩),.pointer (some ⟨B,0,none⟩),.int .i64 (or3 (cmpT ax bx) (cmpT ak bk) (cmpT aq bq)),
 .pointer (some ⟨A,0,none⟩),.string ax,.pointer (some ⟨B,0,none⟩),.string bx,.int .i64 (cmpT ax bx),.pointer (some ⟨A,1,none⟩),.string ak,.pointer (some ⟨B,1,none⟩),.string bk,.int .i64 (cmpT ak bk),.pointer (some ⟨A,2,none⟩),.string aq,.pointer (some ⟨B,2,none⟩),.string bq,.int .i64 (cmpT aq bq),.slice (some ⟨R,0,none⟩) 3 3,.int .i64 (or3 (cmpT ax bx) (cmpT ak bk) (cmpT aq bq))]) (defers:=[])
theorem compare_bi (a b:Bi) (w:World):Calls Tryz.prog 111 #[.agg #[.string a.x,.string a.k,.string a.q],.agg #[.string b.x,.string b.k,.string b.q]] w fun r w'=>r=.returned (.int .i64 (cmpB a b))/\Below w.heap.size w w':=by
 obtain ⟨ax,ak,aq⟩:=a
 obtain ⟨bx,bk,bq⟩:=b
 have hb:Below w.heap.size w ((w.alloc (.cells #[.string ax,.string ak,.string aq] 138)).alloc (.cells #[.string bx,.string bk,.string bq] 138)):=((Below.refl _ _).alloc (Nat.le_refl _) _).alloc (by simp) _
 have hA:=(Below.heap_alloc (w.alloc (.cells #[.string ax,.string ak,.string aq] 138)) (.cells #[.string bx,.string bk,.string bq] 138) w.heap.size (by simp)).trans (heap_alloc_new w _)
 have hB:=heap_alloc_new (w.alloc (.cells #[.string ax,.string ak,.string aq] 138)) (.cells #[.string bx,.string bk,.string bq] 138)
 rw [World.size_alloc] at hB
 have hS:((w.alloc (.cells #[.string ax,.string ak,.string aq] 138)).alloc (.cells #[.string bx,.string bk,.string bq] 138)).heap.size=w.heap.size+2:=by simp
 obtain ⟨W,hW⟩:∃ W,(w.alloc (.cells #[.string ax,.string ak,.string aq] 138)).alloc (.cells #[.string bx,.string bk,.string bq] 138)=W:=⟨_,rfl⟩
 rw [hW] at hb hA hB hS
 go_enter Tryz.func111,Tryz.ntmps111
 go_wp2
 clear hW
 have hcl:∀ (o:Nat) (v:Value) (blk:Nat) (cs:Array Value),W.heap[blk]?=some (.cells cs 138 (0,0))->cs[o]?=some v->∀ w',(w'=W.drew ∨ w'=W.drew.alloc (.cells #[.int .i64 (cmpT ax bx),.int .i64 (cmpT ak bk),.int .i64 (cmpT aq bq)] 3))->w'.cell? ⟨blk,o,none⟩=some v:=by
  intro o v blk cs hblk hv w' hw
  have hlt:blk < W.heap.size:=(Array.getElem?_eq_some_iff.1 hblk).1
  rcases hw with rfl | rfl
  ·show W.cell? ⟨blk,o,none⟩=some v
   simp [World.cell?,hblk,hv]
  ·have h2:(W.drew.alloc (.cells #[.int .i64 (cmpT ax bx),.int .i64 (cmpT ak bk),.int .i64 (cmpT aq bq)] 3)).heap[blk]?=W.heap[blk]?:=Below.heap_alloc W.drew _ blk hlt
   simp only [World.cell?,h2,hblk]
   simp [hv]
 have a0:=hcl 0 _ _ _ hA rfl
 have a1:=hcl 1 _ _ _ hA rfl
 have a2:=hcl 2 _ _ _ hA rfl
 have b0:=hcl 0 _ _ _ hB rfl
 have b1:=hcl 1 _ _ _ hB rfl
 have b2:=hcl 2 _ _ _ hB rfl
 refine dn.region_done (finB ax ak aq bx bk bq w.heap.size (w.heap.size+1) W.heap.size) (Cl W.drew (.cells #[.int .i64 (cmpT ax bx),.int .i64 (cmpT ak bk),.int .i64 (cmpT aq bq)] 3)) (by kernel_rfl) (by kernel_rfl) rfl rfl [0,1,2,3] (by kernel_rfl) ?keep (Or.inl ⟨rfl,rfl⟩) ?each ?fin
 case keep =>
  intro s hs
  simp at hs
  rcases hs with rfl | rfl | rfl | rfl <;> rfl
 case each =>
  refine ⟨st_quiet (by decide) _ (by rintro _ ⟨⟩; rfl) (fun w' _=>by kernel_rfl),?_⟩
  refine ⟨st_quiet (by decide) _ (by rintro _ ⟨⟩; rfl) (fun w' hw=>by have hc:=a0 w' hw; simp [execOp,finB,Act.eval,go_sem,hc]),?_⟩
  refine ⟨st_quiet (by decide) _ (by rintro _ ⟨⟩; rfl) (fun w' _=>by kernel_rfl),?_⟩
  refine ⟨st_quiet (by decide) _ (by rintro _ ⟨⟩; rfl) (fun w' hw=>by have hc:=b0 w' hw; simp [execOp,finB,Act.eval,go_sem,hc]),?_⟩
  refine ⟨st_cmp (by decide) ax bx (by rintro _ ⟨⟩; rfl) (fun w'=>by kernel_rfl),?_⟩
  refine ⟨st_quiet (by decide) _ (by rintro _ ⟨⟩; rfl) (fun w' _=>by kernel_rfl),?_⟩
  refine ⟨st_quiet (by decide) _ (by rintro _ ⟨⟩; rfl) (fun w' hw=>by have hc:=a1 w' hw; simp [execOp,finB,Act.eval,go_sem,hc]),?_⟩
  refine ⟨st_quiet (by decide) _ (by rintro _ ⟨⟩; rfl) (fun w' _=>by kernel_rfl),?_⟩
  refine ⟨st_quiet (by decide) _ (by rintro _ ⟨⟩; rfl) (fun w' hw=>by have hc:=b1 w' hw; simp [execOp,finB,Act.eval,go_sem,hc]),?_⟩
  refine ⟨st_cmp (by decide) ak bk (by rintro _ ⟨⟩; rfl) (fun w'=>by kernel_rfl),?_⟩
  refine ⟨st_quiet (by decide) _ (by rintro _ ⟨⟩; rfl) (fun w' _=>by kernel_rfl),?_⟩
  refine ⟨st_quiet (by decide) _ (by rintro _ ⟨⟩; rfl) (fun w' hw=>by have hc:=a2 w' hw; simp [execOp,finB,Act.eval,go_sem,hc]),?_⟩
  refine ⟨st_quiet (by decide) _ (by rintro _ ⟨⟩; rfl) (fun w' _=>by kernel_rfl),?_⟩
  refine ⟨st_quiet (by decide) _ (by rintro _ ⟨⟩; rfl) (fun w' hw=>by have hc:=b2 w' hw; simp [execOp,finB,Act.eval,go_sem,hc]),?_⟩
  refine ⟨st_cmp (by decide) aq bq (by rintro _ ⟨⟩; rfl) (fun w'=>by kernel_rfl),?_⟩
  refine ⟨?build,?or3,?last,trivial⟩
  case build =>
   intro L w' hw h0 hC
   refine ⟨.slice (some ⟨W.heap.size,0,none⟩) 3 3,by rintro _ ⟨⟩; rfl,?_⟩
   rcases hC with ⟨_,rfl⟩ | ⟨h1,_⟩
   ·simp [execOp,finB,Act.eval,go_sem,dn.left]
    exact Or.inr ⟨by simp [dn.more],rfl⟩
   ·rw [h0] at h1; cases h1
  case or3 =>
   exact st_or (by decide) (by kernel_rfl) _ _ (by rintro _ ⟨⟩; rfl) (fun w'=>by kernel_rfl) (cmpOr (cmpT ax bx) (cmpT ak bk) (cmpT aq bq) W.heap.size _ (at_new W.drew _ _ 0 _ rfl) (at_new W.drew _ _ 1 _ rfl) (at_new W.drew _ _ 2 _ rfl))
  case last=>exact st_quiet (by decide) _ (by rintro _ ⟨⟩; rfl) (fun w' _=>by kernel_rfl)
 case fin =>
  intro L w' hL hC
  rcases hC with ⟨h1,_⟩ | ⟨_,rfl⟩
  ·rw [hL 15 (by decide)] at h1; cases h1
  ·unfold finB
   go_wp2
   go_ret
   exact ⟨rfl,(hb.drew).alloc (by show w.heap.size <= W.heap.size; omega) _⟩
end Go.Proofs.YtaoefccgdfcchaaGreat.rr
namespace Go.Proofs.YtaoefccgdfcchaaGreat.rf
open ChangeShapes WideShapes ChangeAt RowKit rc rr
def UpE (l:List Ex) (n:Nat):Prop:=∀ i a b,i+1 < n->l[i]?=some a->l[i+1]?=some b->cmpT a.n b.n < 0
def UpB (l:List Bi) (n:Nat):Prop:=∀ i a b,i+1 < n->l[i]?=some a->l[i+1]?=some b->cmpB a b < 0
theorem asc_ex (l:List Ex) (g c:Nat) (w:World) (hl:l.length <= 1048576) (hE:RE w g l) :
  Calls Tryz.prog 108 #[.slice (some ⟨g,0,none⟩) l.length c,.func (.func 109) #[] #[]] w fun r w'=>(∃ b:Bool,r=.returned (.bool b)/\(b=true ↔ UpE l l.length))/\Below w.heap.size w w':=by
 have HE:Hid (RE w g l):=hE
 clear hE
 go_enter Tryz.func108,Tryz.ntmps108
 go_wp2
 go_loopw [5] (fun v wr=>∃ k:Nat,1 <= k/\(k <= l.length ∨ k=1)/\v=.int .i64 k/\Hid (UpE l k)/\Below w.heap.size w wr) (fun v _=>l.length - (intOf v).toNat)
 case atStart=>exact ⟨1,Nat.le_refl _,.inr rfl,rfl,fun i a b h=>by omega,Below.refl _ _⟩
 case round =>
  obtain ⟨k,hk1,hk2,rfl,hup,hbel⟩:=hrel
  have hbs:=hbel.size
  by_cases hkl:k < l.length
  ·obtain ⟨m,rfl⟩:∃ m,k=m+1:=⟨k - 1,by omega⟩
   have g0:l[m]?=some l[m]:=List.getElem?_eq_getElem (by omega)
   have g1:l[m+1]?=some l[m+1]:=List.getElem?_eq_getElem hkl
   have hE2:=HE.out.below hbel
   obtain ⟨a0,a1⟩:=hE2.2 m _ g0
   obtain ⟨b0,b1⟩:=hE2.2 (m+1) _ g1
   have hgl:=hE2.1
   have HG0:Hid (l[m]?=some l[m]):=g0
   have HG1:Hid (l[m+1]?=some l[m+1]):=g1
   obtain ⟨⟨an,ak⟩,ha⟩:∃ e,l[m]=e:=⟨_,rfl⟩
   obtain ⟨⟨bn,bk⟩,hb⟩:∃ e,l[m+1]=e:=⟨_,rfl⟩
   rw [ha] at a0 a1 HG0
   rw [hb] at b0 b1 HG1
   have hcmp:=compare_ex an bn ak bk wr.drew
   obtain ⟨z,hz⟩:∃ z,cmpT an bn=z:=⟨_,rfl⟩
   rw [hz] at hcmp
   have HZ:Hid (cmpT an bn=z):=hz
   clear g0 g1 ha hb hE2 hz
   have i1:IntKind.i64.wrap (m:Int)=(m:Int):=by rw [IntKind.wrap_i64]; omega
   have i2:(m:Int) < (l.length:Int):=by omega
   have i3:(m:Int)+1 < (l.length:Int):=by omega
   have i4:((m:Int)+1).toNat=m+1:=by omega
   by_cases hneg:z < 0
   ·have hup2:Hid (UpE l (m+1+1)):=fun j a b hj ha hb=>by
     by_cases e:j=m
     ·subst e
      rw [HG0.out] at ha
      rw [HG1.out] at hb
      cases ha
      cases hb
      show cmpT an bn < 0
      rw [HZ.out]
      exact hneg
     ·exact hup.out j a b (by omega) ha hb
    go_wp2
    go_region_with (go_at_call 109; refine hcmp.mono ?_; rintro e w1 ⟨rfl,hb1⟩)
    all_goals go_wp2
    all_goals go_roundw
    all_goals first | exact ⟨m+1+1,by omega,.inl (by omega),by go_num,hup2,hbel.drew.trans (hb1.mono hbs)⟩ | (simp [intOf]; omega)
   ·have hno:¬ UpE l l.length:=fun h=>by
     have:=h m _ _ (by omega) HG0.out HG1.out
     have h2:cmpT an bn < 0:=this
     rw [HZ.out] at h2
     exact hneg h2
    have HNO:Hid (¬ UpE l l.length):=hno
    have hge:(0:Int) <= z:=by omega
    clear hno
    go_wp2
    go_region_with (go_at_call 109; refine hcmp.mono ?_; rintro e w1 ⟨rfl,hb1⟩)
    all_goals go_wp2
    all_goals go_ret
    all_goals exact ⟨⟨false,rfl,by simp; exact HNO.out⟩,hbel.drew.trans (hb1.mono hbs)⟩
  ·have hall:Hid (UpE l l.length):=fun j a b hj ha hb=>hup.out j a b (by omega) ha hb
   go_wp2
   go_ret
   exact ⟨⟨true,rfl,by simp; exact hall.out⟩,hbel⟩
theorem asc_bi (l:List Bi) (g c:Nat) (w:World) (hl:l.length <= 1048576) (hE:RB w g l) :
  Calls Tryz.prog 110 #[.slice (some ⟨g,0,none⟩) l.length c,.func (.func 111) #[] #[]] w fun r w'=>(∃ b:Bool,r=.returned (.bool b)/\(b=true ↔ UpB l l.length))/\Below w.heap.size w w':=by
 have HE:Hid (RB w g l):=hE
 clear hE
 go_enter Tryz.func110,Tryz.ntmps110
 go_wp2
 go_loopw [5] (fun v wr=>∃ k:Nat,1 <= k/\(k <= l.length ∨ k=1)/\v=.int .i64 k/\Hid (UpB l k)/\Below w.heap.size w wr) (fun v _=>l.length - (intOf v).toNat)
 case atStart=>exact ⟨1,Nat.le_refl _,.inr rfl,rfl,fun i a b h=>by omega,Below.refl _ _⟩
 case round =>
  obtain ⟨k,hk1,hk2,rfl,hup,hbel⟩:=hrel
  have hbs:=hbel.size
  by_cases hkl:k < l.length
  ·obtain ⟨m,rfl⟩:∃ m,k=m+1:=⟨k - 1,by omega⟩
   have g0:l[m]?=some l[m]:=List.getElem?_eq_getElem (by omega)
   have g1:l[m+1]?=some l[m+1]:=List.getElem?_eq_getElem hkl
   have hE2:=HE.out.below hbel
   obtain ⟨a0,a1,a2⟩:=hE2.2 m _ g0
   obtain ⟨b0,b1,b2⟩:=hE2.2 (m+1) _ g1
   have hgl:=hE2.1
   have HG0:Hid (l[m]?=some l[m]):=g0
   have HG1:Hid (l[m+1]?=some l[m+1]):=g1
   obtain ⟨⟨ax,ak,aq⟩,ha⟩:∃ e,l[m]=e:=⟨_,rfl⟩
   obtain ⟨⟨bx,bk,bq⟩,hb⟩:∃ e,l[m+1]=e:=⟨_,rfl⟩
   rw [ha] at a0 a1 a2 HG0
   rw [hb] at b0 b1 b2 HG1
   have hcmp:=compare_bi ⟨ax,ak,aq⟩ ⟨bx,bk,bq⟩ wr.drew
   obtain ⟨z,hz⟩:∃ z,cmpB ⟨ax,ak,aq⟩ ⟨bx,bk,bq⟩=z:=⟨_,rfl⟩
   rw [hz] at hcmp
   have HZ:Hid (cmpB ⟨ax,ak,aq⟩ ⟨bx,bk,bq⟩=z):=hz
   clear g0 g1 ha hb hE2 hz
   have i1:IntKind.i64.wrap (m:Int)=(m:Int):=by rw [IntKind.wrap_i64]; omega
   have i2:(m:Int) < (l.length:Int):=by omega
   have i3:(m:Int)+1 < (l.length:Int):=by omega
   have i4:((m:Int)+1).toNat=m+1:=by omega
   by_cases hneg:z < 0
   ·have hup2:Hid (UpB l (m+1+1)):=fun j a b hj ha hb=>by
     by_cases e:j=m
     ·subst e
      rw [HG0.out] at ha
      rw [HG1.out] at hb
      cases ha
      cases hb
      show cmpB ⟨ax,ak,aq⟩ ⟨bx,bk,bq⟩ < 0
      rw [HZ.out]
      exact hneg
     ·exact hup.out j a b (by omega) ha hb
    go_wp2
    go_region_with (go_at_call 111; refine hcmp.mono ?_; rintro e w1 ⟨rfl,hb1⟩)
    all_goals go_wp2
    all_goals go_roundw
    all_goals first | exact ⟨m+1+1,by omega,.inl (by omega),by go_num,hup2,hbel.drew.trans (hb1.mono hbs)⟩ | (simp [intOf]; omega)
   ·have hno:¬ UpB l l.length:=fun h=>by
     have:=h m _ _ (by omega) HG0.out HG1.out
     have h2:cmpB ⟨ax,ak,aq⟩ ⟨bx,bk,bq⟩ < 0:=this
     rw [HZ.out] at h2
     exact hneg h2
    have HNO:Hid (¬ UpB l l.length):=hno
    have hge:(0:Int) <= z:=by omega
    clear hno
    go_wp2
    go_region_with (go_at_call 111; refine hcmp.mono ?_; rintro e w1 ⟨rfl,hb1⟩)
    all_goals go_wp2
    all_goals go_ret
    all_goals exact ⟨⟨false,rfl,by simp; exact HNO.out⟩,hbel.drew.trans (hb1.mono hbs)⟩
  ·have hall:Hid (UpB l l.length):=fun j a b hj ha hb=>hup.out j a b (by omega) ha hb
   go_wp2
   go_ret
   exact ⟨⟨true,rfl,by simp; exact hall.out⟩,hbel⟩
end Go.Proofs.YtaoefccgdfcchaaGreat.rf
namespace Go.Proofs.YtaoefccgdfcchaaGreat.qi
open RowKit
def T (w W:World):Prop:=Below w.heap.size w W
theorem T.refl (w:World):T w w:=Below.refl _ _
theorem T.next {w W W':World} (h:T w W) (h2:Below W.heap.size W W'):T w W':=Below.trans h (h2.mono (Below.size h))
theorem T.drew {w W:World} (h:T w W):T w W.drew:=Below.drew h
theorem T.size {w W:World} (h:T w W):w.heap.size <= W.heap.size:=Below.size h
structure Cls (w:World) where
 x:World
 h:T w x
instance (w:World):Nonempty (Cls w):=⟨⟨w,T.refl w⟩⟩
theorem region_in {P:Program} {id:Nat} {Q:Exit->Act->World->Prop} {a:Act} {W:World} {l:List Oper} (w:World) (hT:T w W) (hm:P.follows .mixedOrders=true) (hB:Region.lexB .any l.toArray=true)
  (h:wpQuiet P l.toArray (fun w'=>∃ n:Cls w,w'=n.x) (fun a'=>∀ w',(∃ n:Cls w,w'=n.x)->Q .normal a' w') l a):(Code.region id l.toArray true).wp P Q a W :=
 wp_region_quiet (C:=fun w'=>∃ n:Cls w,w'=n.x) hm hB ⟨⟨_,T.drew hT⟩,rfl⟩ h
end Go.Proofs.YtaoefccgdfcchaaGreat.qi
namespace Go.Proofs.YtaoefccgdfcchaaGreat.rs
open ChangeShapes WideShapes ChangeAt RowKit rc rr rf
def MonE (l:List Ex) (name:ByteArray):Prop:=∀ (i j:Nat) a b,i <= j->l[i]?=some a->l[j]?=some b->cmpT b.n name < 0->cmpT a.n name < 0
def PosE (l:List Ex) (name:ByteArray) (p:Nat):Prop:=p <= l.length/\(∀ (i:Nat) a,i < p->l[i]?=some a->cmpT a.n name < 0)/\∀ (i:Nat) a,p <= i->l[i]?=some a->0 <= cmpT a.n name
theorem search_ex (l:List Ex) (g c:Nat) (name:ByteArray) (w:World) (hl:l.length <= 1048576) (hE:RE w g l) (hM:MonE l name) :
  Calls Tryz.prog 143 #[.slice (some ⟨g,0,none⟩) l.length c,.agg #[.string name,.int .i64 0],.func (.func 109) #[] #[]] w fun r w'=>(∃ (p:Nat) (b:Bool),r=.returned (.tuple #[.int .i64 p,.bool b])/\PosE l name p/\(b=true ↔ ∃ a,l[p]?=some a/\cmpT a.n name=0))/\Below w.heap.size w w':=by
 have hb:Below w.heap.size w (w.alloc (.cells #[.string name,.int .i64 0] 137)):=(Below.refl _ _).alloc (Nat.le_refl _) _
 have HE:Hid (RE w g l):=hE
 have HM:Hid (MonE l name):=hM
 have tb:=heap_alloc_new w (.cells #[.string name,.int .i64 0] 137)
 have hlt:w.heap.size < (w.alloc (.cells #[.string name,.int .i64 0] 137)).heap.size:=by simp
 obtain ⟨W,hW⟩:∃ W,w.alloc (.cells #[.string name,.int .i64 0] 137)=W:=⟨_,rfl⟩
 rw [hW] at hb tb hlt
 have HTB:Hid (W.heap[w.heap.size]?=some (.cells #[.string name,.int .i64 0] 137 (0,0))):=tb
 have HEW:Hid (RE W g l):=HE.out.below hb
 clear hE hM tb
 go_enter Tryz.func143,Tryz.ntmps143
 go_wp2
 clear hW
 go_loopw [9,10,11] (fun v x _ wr=>∃ (i j:Nat),i <= j/\j <= l.length/\v=.int .i64 i/\x=.int .i64 j/\Hid ((∀ (t:Nat) a,t < i->l[t]?=some a->cmpT a.n name < 0)/\∀ (t:Nat) a,j <= t->l[t]?=some a->0 <= cmpT a.n name)/\Below W.heap.size W wr) (fun v x _ _=>(intOf x).toNat - (intOf v).toNat)
 case atStart=>exact ⟨0,l.length,Nat.zero_le _,Nat.le_refl _,rfl,rfl,⟨fun t a h=>by omega,fun t a h ha=>by have:=(List.getElem?_eq_some_iff.1 ha).1; omega⟩,Below.refl _ _⟩
 case round =>
  obtain ⟨i,j,hij,hjl,rfl,rfl,hinv,hbel⟩:=hrel
  have hbs:=hbel.size
  by_cases hlt2:i < j
  ·obtain ⟨h,hh,hh1,hh2⟩:∃ h:Nat,((i:Int)+(j:Int)) / 2=(h:Int)/\i <= h/\h < j:=⟨(i+j) / 2,by omega,by omega,by omega⟩
   have g0:l[h]?=some l[h]:=List.getElem?_eq_getElem (by omega)
   obtain ⟨a0,a1⟩:=(HEW.out.below hbel).2 h _ g0
   have t0:wr.cell? ⟨w.heap.size,0,none⟩=some (.string name):=by
    have:=(hbel.block w.heap.size hlt).trans HTB.out
    simp [World.cell?,this]
   have t1:wr.cell? ⟨w.heap.size,1,none⟩=some (.int .i64 0):=by
    have:=(hbel.block w.heap.size hlt).trans HTB.out
    simp [World.cell?,this]
   have HG0:Hid (l[h]?=some l[h]):=g0
   obtain ⟨⟨an,ak⟩,ha⟩:∃ e,l[h]=e:=⟨_,rfl⟩
   rw [ha] at a0 a1 HG0
   have hcmp:=compare_ex an name ak 0 wr.drew
   obtain ⟨z,hz⟩:∃ z,cmpT an name=z:=⟨_,rfl⟩
   rw [hz] at hcmp
   have HZ:Hid (cmpT an name=z):=hz
   have i2:(h:Int) < (l.length:Int):=by omega
   clear g0 ha hz
   by_cases hneg:z < 0
   ·have hinv2:Hid ((∀ (t:Nat) a,t < h+1->l[t]?=some a->cmpT a.n name < 0)/\∀ (t:Nat) a,j <= t->l[t]?=some a->0 <= cmpT a.n name):=⟨fun t a ht hta=>HM.out t h a _ (by omega) hta HG0.out (by show cmpT an name < 0; rw [HZ.out]; exact hneg),hinv.out.2⟩
    go_wp2
    go_region_with (go_at_call 109; refine hcmp.mono ?_; rintro e w1 ⟨rfl,hb1⟩)
    all_goals go_wp2
    all_goals go_roundw
    all_goals first | exact ⟨h+1,j,by omega,hjl,by go_num,rfl,hinv2,hbel.drew.trans (hb1.mono hbs)⟩ | (simp [intOf]; omega)
   ·have hinv2:Hid ((∀ (t:Nat) a,t < i->l[t]?=some a->cmpT a.n name < 0)/\∀ (t:Nat) a,h <= t->l[t]?=some a->0 <= cmpT a.n name):=⟨hinv.out.1,fun t a ht hta=>by
     by_cases hn:cmpT a.n name < 0
     ·have h3:=HM.out h t _ a ht HG0.out hta hn
      have h4:cmpT an name < 0:=h3
      rw [HZ.out] at h4
      exact absurd h4 hneg
     ·omega⟩
    have hge:(0:Int) <= z:=by omega
    go_wp2
    go_region_with (go_at_call 109; refine hcmp.mono ?_; rintro e w1 ⟨rfl,hb1⟩)
    all_goals go_wp2
    all_goals go_roundw
    all_goals first | exact ⟨i,h,by omega,by omega,rfl,rfl,hinv2,hbel.drew.trans (hb1.mono hbs)⟩ | (simp [intOf]; omega)
  ·obtain rfl:i=j:=by omega
   have hpos:Hid (PosE l name i):=⟨hjl,hinv.out.1,hinv.out.2⟩
   by_cases hil:i < l.length
   ·have g0:l[i]?=some l[i]:=List.getElem?_eq_getElem hil
    obtain ⟨a0,a1⟩:=(HEW.out.below hbel).2 i _ g0
    have t0:wr.cell? ⟨w.heap.size,0,none⟩=some (.string name):=by
     have:=(hbel.block w.heap.size hlt).trans HTB.out
     simp [World.cell?,this]
    have t1:wr.cell? ⟨w.heap.size,1,none⟩=some (.int .i64 0):=by
     have:=(hbel.block w.heap.size hlt).trans HTB.out
     simp [World.cell?,this]
    have HG0:Hid (l[i]?=some l[i]):=g0
    obtain ⟨⟨an,ak⟩,ha⟩:∃ e,l[i]=e:=⟨_,rfl⟩
    rw [ha] at a0 a1 HG0
    have hcmp:=compare_ex an name ak 0 wr.drew
    obtain ⟨z,hz⟩:∃ z,cmpT an name=z:=⟨_,rfl⟩
    rw [hz] at hcmp
    have HZ:Hid (cmpT an name=z):=hz
    have i2:(i:Int) < (l.length:Int):=by omega
    have hd:decide ((i:Int) < (l.length:Int))=true:=by simp; omega
    have kc:∀ N:qi.Cls wr,Calls Tryz.prog 109 #[.agg #[.string an,.int .i64 ak],.agg #[.string name,.int .i64 0]] N.x fun e w'=>e=.returned (.int .i64 z)/\qi.T wr w':=fun N=>by
     have h:=compare_ex an name ak 0 N.x
     rw [HZ.out] at h
     exact h.mono fun e w' ⟨h1,h2⟩=>⟨h1,N.h.next h2⟩
    have hgl:=(HEW.out.below hbel).1
    have htl:w.heap.size < wr.heap.size:=Nat.lt_of_lt_of_le hlt hbs
    have A0:=fun N:qi.Cls wr=>(Below.cell N.h (p:=⟨g,i*2,none⟩) hgl).trans a0
    have A1:=fun N:qi.Cls wr=>(Below.cell N.h (p:=⟨g,i*2+1,none⟩) hgl).trans a1
    have T0:=fun N:qi.Cls wr=>(Below.cell N.h (p:=⟨w.heap.size,0,none⟩) htl).trans t0
    have T1:=fun N:qi.Cls wr=>(Below.cell N.h (p:=⟨w.heap.size,1,none⟩) htl).trans t1
    clear g0 ha hz hcmp a0 a1 t0 t1
    go_wp2
    refine qi.region_in wr (qi.T.refl wr) (by kernel_rfl) (by kernel_rfl) ?_
    repeat (go_big_quiet_step (first | (go_at_call 109; refine (kc _).mono ?_; rintro e wx ⟨rfl,hTx⟩; exact ⟨rfl,⟨wx,hTx⟩,rfl⟩)))
    refine wpQuiet_nil ?_
    rintro _ ⟨N,rfl⟩
    have hN:=N.h
    generalize N.x=wN at hN ⊢
    clear N kc A0 A1 T0 T1
    go_wp2
    go_ret2
    exact ⟨⟨i,z == 0,rfl,hpos.out,by simp; rw [<- HZ.out]; exact ⟨fun h=>⟨_,HG0.out,h⟩,fun ⟨a,ha,h⟩=>by rw [HG0.out] at ha; cases ha; exact h⟩⟩,hb.trans ((hbel.trans (Below.mono hN hbs)).mono (by omega))⟩
   ·have hd:decide ((i:Int) < (l.length:Int))=false:=by simp; omega
    have hd2:¬ (i:Int) < (l.length:Int):=by omega
    go_wp2
    refine qi.region_in wr (qi.T.refl wr) (by kernel_rfl) (by kernel_rfl) ?_
    repeat (go_big_quiet_step (first | (go_at_call 109; fail)))
    refine wpQuiet_nil ?_
    rintro _ ⟨N,rfl⟩
    have hN:=N.h
    generalize N.x=wN at hN ⊢
    clear N
    go_wp2
    go_ret2
    exact ⟨⟨i,false,rfl,hpos.out,by simp; intro a ha; have:=(List.getElem?_eq_some_iff.1 ha).1; omega⟩,hb.trans ((hbel.trans (Below.mono hN hbs)).mono (by omega))⟩
end Go.Proofs.YtaoefccgdfcchaaGreat.rs
namespace Go.Proofs.YtaoefccgdfcchaaGreat.ro
open rc rr rf rs
theorem bl_irrefl:∀ a:List UInt8,Op.bytesLess a a=false
 | []=>rfl
 | x :: a=>by simp [Op.bytesLess,bl_irrefl a]
theorem bl_trans:∀ {a b c:List UInt8},Op.bytesLess a b=true->Op.bytesLess b c=true->Op.bytesLess a c=true
 | _,[],_,h,_=>by simp [Op.bytesLess] at h
 | _,_ :: _,[],_,h=>by simp [Op.bytesLess] at h
 | [],_ :: _,_ :: _,_,_=>rfl
 | x :: a,y :: b,z :: c,h1,h2=>by
  simp only [Op.bytesLess,Bool.or_eq_true,decide_eq_true_eq,Bool.and_eq_true,beq_iff_eq] at h1 h2 ⊢
  rcases h1 with h1 | ⟨rfl,h1⟩
  ·rcases h2 with h2 | ⟨rfl,h2⟩
   ·left; exact UInt8.lt_trans h1 h2
   ·left; exact h1
  ·rcases h2 with h2 | ⟨rfl,h2⟩
   ·left; exact h2
   ·right; exact ⟨rfl,bl_trans h1 h2⟩
theorem bl_asymm {a b:List UInt8} (h:Op.bytesLess a b=true):Op.bytesLess b a=false:=by
 cases h2:Op.bytesLess b a with
 | false=>rfl
 | true=>have:=bl_trans h h2; rw [bl_irrefl] at this; cases this
theorem bl_tri:∀ (a b:List UInt8),Op.bytesLess a b=false->a ≠ b->Op.bytesLess b a=true
 | [],[],_,h=>absurd rfl h
 | [],_ :: _,h,_=>by simp [Op.bytesLess] at h
 | _ :: _,[],_,_=>rfl
 | x :: a,y :: b,h,hne=>by
  simp only [Op.bytesLess,Bool.or_eq_false_iff,decide_eq_false_iff_not,Bool.and_eq_false_iff] at h
  simp only [Op.bytesLess,Bool.or_eq_true,decide_eq_true_eq,Bool.and_eq_true,beq_iff_eq]
  obtain ⟨h1,h2⟩:=h
  by_cases e:x=y
  ·subst e
   right
   refine ⟨rfl,bl_tri a b ?_ (fun e=>hne (by rw [e]))⟩
   rcases h2 with h2 | h2
   ·simp at h2
   ·exact h2
  ·left
   have h3:¬ x.toNat < y.toNat:=fun h=>h1 (UInt8.lt_iff_toNat_lt.2 h)
   have h4:x.toNat ≠ y.toNat:=fun h=>e (UInt8.toNat_inj.1 h)
   exact UInt8.lt_iff_toNat_lt.2 (by omega)
theorem lt_trans {a b c:ByteArray} (h1:lt a b=true) (h2:lt b c=true):lt a c=true:=bl_trans h1 h2
theorem lt_irrefl (a:ByteArray):lt a a=false:=bl_irrefl _
theorem lt_asymm {a b:ByteArray} (h:lt a b=true):lt b a=false:=bl_asymm h
theorem lt_tri {a b:ByteArray} (h:lt a b=false) (hne:a ≠ b):lt b a=true:=bl_tri _ _ h (fun e=>hne (of_same e))
theorem cmp_neg {a b:ByteArray}:cmpT a b < 0 ↔ lt a b=true:=by
 unfold cmpT
 cases lt a b with
 | true=>simp
 | false=>simp; split <;> simp
theorem cmp_zero {a b:ByteArray}:cmpT a b=0 ↔ a=b:=by
 unfold cmpT
 cases h:lt a b with
 | true=>simp; intro e; rw [e,lt_irrefl] at h; cases h
 | false=>simp
theorem above {a b:ByteArray}:(lt b a || b.toList == a.toList)=false ↔ lt a b=true:=by
 rw [Bool.or_eq_false_iff]
 constructor
 ·rintro ⟨h1,h2⟩
  exact lt_tri h1 (fun e=>by rw [e] at h2; simp at h2)
 ·intro h
  refine ⟨lt_asymm h,?_⟩
  simp
  intro e
  rw [of_same e,lt_irrefl] at h
  cases h
theorem before_cmp {a b:Bi}:before a b=true ↔ cmpB a b < 0:=by
 unfold before cmpB or3
 by_cases hx:a.x=b.x
 ·have zx:=cmp_zero.2 hx
  by_cases hk:a.k=b.k
  ·have zk:=cmp_zero.2 hk
   rw [zx,zk]
   simp only [hx,hk,if_true,ne_eq,not_true_eq_false,if_false]
   exact cmp_neg.symm
  ·have zk:cmpT a.k b.k ≠ 0:=fun e=>hk (cmp_zero.1 e)
   rw [zx]
   simp only [hx,hk,zk,if_true,ne_eq,not_true_eq_false,if_false,not_false_eq_true]
   exact cmp_neg.symm
 ·have zx:cmpT a.x b.x ≠ 0:=fun e=>hx (cmp_zero.1 e)
  simp only [hx,zx,if_true,ne_eq,if_false,not_false_eq_true]
  exact cmp_neg.symm
theorem up_lt {l:List Ex} (h:UpE l l.length):∀ (d i:Nat) (a b:Ex),l[i]?=some a->l[i+d+1]?=some b->lt a.n b.n=true
 | 0,i,a,b,ha,hb=>cmp_neg.1 (h i a b (List.getElem?_eq_some_iff.1 hb).1 ha hb)
 | d+1,i,a,b,ha,hb=>by
  have hlt:=(List.getElem?_eq_some_iff.1 hb).1
  have hm:l[i+d+1]?=some l[i+d+1]:=List.getElem?_eq_getElem (by omega)
  exact lt_trans (up_lt h d i a _ ha hm) (cmp_neg.1 (h (i+d+1) _ b (by omega) hm (by rw [<- hb]; congr 1)))
theorem up_mon {l:List Ex} (h:UpE l l.length) (name:ByteArray):MonE l name:=by
 intro i j a b hij ha hb hn
 by_cases e:i=j
 ·subst e
  rw [ha] at hb
  cases hb
  exact hn
 ·obtain ⟨d,rfl⟩:∃ d,j=i+d+1:=⟨j - i - 1,by omega⟩
  exact cmp_neg.2 (lt_trans (up_lt h d i a b ha hb) (cmp_neg.1 hn))
theorem found {l:List Ex} (h:UpE l l.length) {name:ByteArray} {p:Nat} (hp:PosE l name p):(∃ a,l[p]?=some a/\cmpT a.n name=0) ↔ ∃ (t:Nat) (a:Ex),l[t]?=some a/\a.n=name:=by
 constructor
 ·rintro ⟨a,ha,hz⟩
  exact ⟨p,a,ha,cmp_zero.1 hz⟩
 ·rintro ⟨t,a,ha,rfl⟩
  have hz:=cmp_zero.2 (rfl:a.n=a.n)
  have htp:p <= t:=by
   by_cases e:t < p
   ·have:=hp.2.1 t a e ha; omega
   ·omega
  by_cases e:t=p
  ·subst e; exact ⟨a,ha,hz⟩
  ·obtain ⟨d,rfl⟩:∃ d,t=p+d+1:=⟨t - p - 1,by omega⟩
   have hlt:=(List.getElem?_eq_some_iff.1 ha).1
   have hm:l[p]?=some l[p]:=List.getElem?_eq_getElem (by omega)
   have h1:=hp.2.2 p _ (Nat.le_refl _) hm
   have h2:=cmp_neg.2 (up_lt h d p _ a hm ha)
   omega
theorem kind_there {l:List Ex} (hk:∀ (i:Nat) e,l[i]?=some e->0 <= e.k) (name:ByteArray):0 <= kindOf l name ↔ ∃ (t:Nat) (a:Ex),l[t]?=some a/\a.n=name:=by
 unfold kindOf
 cases hf:l.find? (fun e=>decide (e.n=name)) with
 | none =>
  simp only [List.find?_eq_none,decide_eq_true_eq] at hf
  constructor
  ·intro h; exact absurd h (by decide)
  ·rintro ⟨t,a,ha,he⟩
   exact absurd he (hf a (List.mem_of_getElem? ha))
 | some e =>
  have hm:=List.mem_of_find?_eq_some hf
  have hn:=List.find?_some hf
  obtain ⟨t,ht⟩:=List.mem_iff_getElem?.1 hm
  simp only [decide_eq_true_eq] at hn
  exact ⟨fun _=>⟨t,e,ht,hn⟩,fun _=>hk t e ht⟩
structure OkR (es:List Ex) (bs:List Bi):Prop where
 el:es.length <= 60
 bl:bs.length <= 60
 eo:∀ (i:Nat) e,es[i]?=some e->exOk e=true
 eu:UpE es es.length
 bo:∀ (i:Nat) b,bs[i]?=some b->0 <= kindOf es b.x/\ky.good b.k=true/\nm.good b.q=true
 bu:UpB bs bs.length
end Go.Proofs.YtaoefccgdfcchaaGreat.ro
