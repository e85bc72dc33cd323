/- RouteLib, CopyBinding. -/
import Derived.Test.YtaoefccgdfcchaaGreatKq11
import Derived.Test.YtaoefccgdfcchaaGreatKq10
import Derived.Test.YtaoefccgdfcchaaGreatKq01
set_option maxRecDepth 100000
set_option maxHeartbeats 8000000
set_option linter.unusedVariables false
namespace Go.Proofs.YtaoefccgdfcchaaGreat.rl
open ChangeShapes WideShapes ChangeAt RowKit rr ra rt
theorem eq_oneE (e:Ex) (w:World):Calls Tryz.prog 128 #[.agg #[.string e.n,.int .i64 e.k],.agg #[.string e.n,.int .i64 e.k]] w fun r w'=>r=.returned (.bool true)/\Below w.heap.size w w':=by
 obtain ⟨en,ek⟩:=e
 go_enter Tryz.func128,Tryz.ntmps128
 go_wp2
 go_ret
 exact ⟨rfl,((Below.refl _ _).alloc (Nat.le_refl _) _).alloc (by simp) _⟩
theorem eq_oneB (e:Bi) (w:World):Calls Tryz.prog 129 #[.agg #[.string e.x,.string e.k,.string e.q],.agg #[.string e.x,.string e.k,.string e.q]] w fun r w'=>r=.returned (.bool true)/\Below w.heap.size w w':=by
 obtain ⟨ex,ek,eq⟩:=e
 go_enter Tryz.func129,Tryz.ntmps129
 go_wp2
 go_ret
 exact ⟨rfl,((Below.refl _ _).alloc (Nat.le_refl _) _).alloc (by simp) _⟩
theorem SE.inn {w W:World} {a:Option Addr} {l:List Ex} (h:SE w w.heap.size a l) (hb:Below w.heap.size w W):SE W W.heap.size a l:=by
 rcases h with h | ⟨b,off,ha,hlt,hc⟩
 ·exact .inl h
 ·refine .inr ⟨b,off,ha,Nat.lt_of_lt_of_le hlt hb.size,fun i e he=>?_⟩
  obtain ⟨h1,h2⟩:=hc i e he
  exact ⟨(hb.cell (p:=⟨b,_,none⟩) hlt).trans h1,(hb.cell (p:=⟨b,_,none⟩) hlt).trans h2⟩
theorem SB.inn {w W:World} {a:Option Addr} {l:List Bi} (h:SB w w.heap.size a l) (hb:Below w.heap.size w W):SB W W.heap.size a l:=by
 rcases h with h | ⟨b,off,ha,hlt,hc⟩
 ·exact .inl h
 ·refine .inr ⟨b,off,ha,Nat.lt_of_lt_of_le hlt hb.size,fun i e he=>?_⟩
  obtain ⟨h1,h2,h3⟩:=hc i e he
  exact ⟨(hb.cell (p:=⟨b,_,none⟩) hlt).trans h1,(hb.cell (p:=⟨b,_,none⟩) hlt).trans h2,(hb.cell (p:=⟨b,_,none⟩) hlt).trans h3⟩
theorem sz_routes (es:List Ex) (bs:List Bi) (ea ba:Option Addr) (ec bc:Nat) (w:World) (hel:es.length <= maxLen) (hbl:bs.length <= maxLen) (hes:∀ e ∈ es,e.n.size <= maxLen) (hbs:∀ e ∈ bs,e.x.size <= maxLen/\e.k.size <= maxLen/\e.q.size <= maxLen) (hE:SE w w.heap.size ea es) (hB:SB w w.heap.size ba bs) :
  Calls Tryz.prog 11 #[.agg #[.slice ea es.length ec,.slice ba bs.length bc],.int .i64 1048576] w fun e w'=>∃ r:Int,e=.returned (.int .i64 r)/\(0 <= r->es.length+bulkE es+bs.length+bulkB bs <= 1048576)/\Below w.heap.size w w':=by
 have hb:Below w.heap.size w (w.alloc (.cells #[.slice ea es.length ec,.slice ba bs.length bc] 25)):=(Below.refl _ _).alloc (Nat.le_refl _) _
 have hA:=heap_alloc_new w (.cells #[.slice ea es.length ec,.slice ba bs.length bc] 25)
 obtain ⟨W,hW⟩:∃ W,w.alloc (.cells #[.slice ea es.length ec,.slice ba bs.length bc] 25)=W:=⟨_,rfl⟩
 rw [hW] at hb hA
 have he:=sz_allE es ea ec 1048576 W hel hes (by omega) (by omega) (SE.inn hE hb)
 have HB3:Hid (SB W W.heap.size ba bs):=SB.inn hB hb
 have x0:W.cell? ⟨w.heap.size,0,none⟩=some (.slice ea es.length ec):=by simp [World.cell?,hA]
 have HA:Hid (W.heap[w.heap.size]?=some (.cells #[.slice ea es.length ec,.slice ba bs.length bc] 25 (0,0))):=hA
 have la:=(Array.getElem?_eq_some_iff.1 hA).1
 have HBS:Hid (∀ e ∈ bs,e.x.size <= maxLen/\e.k.size <= maxLen/\e.q.size <= maxLen):=hbs
 clear hE hB hA hes hbs
 go_enter Tryz.func11,Tryz.ntmps11
 go_wp2_with (go_at_call 37; fail)
 refine he.mono ?_
 rintro e w1 ⟨r,rfl,hr,hr0,hr1,hb1⟩
 clear hW x0
 by_cases hneg:r < 0
 ·go_wp2
  go_ret
  exact ⟨-1,rfl,by omega,hb.trans (hb1.mono hb.size)⟩
 ·have x1:w1.cell? ⟨w.heap.size,1,none⟩=some (.slice ba bs.length bc):=by
   have:=(hb1.block w.heap.size la).trans HA.out
   simp [World.cell?,this]
  have hq:=sz_allB bs ba bc r w1 hbl HBS.out (by omega) (by omega) (SB.inn HB3.out hb1)
  have HR:Hid (r=1048576 - es.length - bulkE es):=hr (by omega)
  clear he hr
  go_wp2_with (go_at_call 38; fail)
  refine hq.mono ?_
  rintro e w2 ⟨r2,rfl,hr2,hr20,hr21,hb2⟩
  have hfin:Below w.heap.size w w2:=hb.trans ((hb1.trans (hb2.mono hb1.size)).mono hb.size)
  have HR2:Hid (0 <= r2->r2=r - bs.length - bulkB bs):=hr2
  clear hq hr2
  by_cases hneg2:r2 < 0
  ·go_wp2
   go_ret
   exact ⟨-1,rfl,by omega,hfin⟩
  ·go_wp2
   go_ret
   exact ⟨r2,rfl,fun h=>by have h1:=HR2.out h; have h2:=HR.out; omega,hfin⟩
theorem RE.set {w:World} {g:Nat} {l:List Ex} (h:RE w g l) {p:Addr} (hne:g ≠ p.block) (v:Value):RE (w.setCell p v) g l:=by
 have hblk:(w.setCell p v).heap[g]?=w.heap[g]?:=Below.heap_setCell w p v g hne
 refine ⟨by simpa using h.1,fun i e he=>?_⟩
 obtain ⟨h1,h2⟩:=h.2 i e he
 exact ⟨(World.cell?_of_block (a:=⟨g,_,none⟩) hblk).trans h1,(World.cell?_of_block (a:=⟨g,_,none⟩) hblk).trans h2⟩
theorem RB.set {w:World} {g:Nat} {l:List Bi} (h:RB w g l) {p:Addr} (hne:g ≠ p.block) (v:Value):RB (w.setCell p v) g l:=by
 have hblk:(w.setCell p v).heap[g]?=w.heap[g]?:=Below.heap_setCell w p v g hne
 refine ⟨by simpa using h.1,fun i e he=>?_⟩
 obtain ⟨h1,h2,h3⟩:=h.2 i e he
 exact ⟨(World.cell?_of_block (a:=⟨g,_,none⟩) hblk).trans h1,(World.cell?_of_block (a:=⟨g,_,none⟩) hblk).trans h2,(World.cell?_of_block (a:=⟨g,_,none⟩) hblk).trans h3⟩
end Go.Proofs.YtaoefccgdfcchaaGreat.rl
namespace Go.Proofs.YtaoefccgdfcchaaGreat.cb
open ChangeShapes WideShapes ChangeAt RowKit rr fl
def fin (s:Nat) (x k q:ByteArray):Act:={ tmps:=#[.agg #[.string x,.string k,.string q],.pointer (some ⟨s,0,none⟩),.pointer (some ⟨s+1,0,none⟩),.pointer (some ⟨s,0,none⟩),.string x,.string x,.pointer (some ⟨s,1,none⟩),.string k,.string k,.pointer (some ⟨s,2,none⟩),.string q,.string q,.agg #[.string x,.string k,.string q]],defers:=[] }
def D (w:World) (x k q:ByteArray) (b:Bool) (W:World):Prop :=
 Below w.heap.size w W/\W.heap[w.heap.size]?=some (.cells #[.string x,.string k,.string q] 138 (0,0)) /\
  W.heap[w.heap.size+1]?=some (.cells (if b then #[.string x,.string k,.string q] else #[.string ByteArray.empty,.string ByteArray.empty,.string ByteArray.empty]) 138 (0,0))
theorem D.on {w:World} {x k q:ByteArray} {b:Bool} {W W':World} (h:D w x k q b W) (hb:Below W.heap.size W W'):D w x k q b W':=by
 obtain ⟨h1,h2,h3⟩:=h
 have hs:w.heap.size+1 < W.heap.size:=(Array.getElem?_eq_some_iff.1 h3).1
 exact ⟨h1.trans (hb.mono h1.size),bstay h2 hb (by omega),bstay h3 hb hs⟩
theorem copy_binding (e:Bi) (w:World) (hx:e.x.size <= 1048576/\e.k.size <= 1048576/\e.q.size <= 1048576):Calls Tryz.prog 104 #[.agg #[.string e.x,.string e.k,.string e.q]] w fun r w'=>r=.returned (.agg #[.string e.x,.string e.k,.string e.q])/\Below w.heap.size w w':=by
 obtain ⟨x,k,q⟩:=e
 obtain ⟨hx1,hx2,hx3⟩:=hx
 have cl1:=fun W=>cl.clone x W (by have:x.size <= 1048576:=hx1; omega)
 have cl2:=fun W=>cl.clone k W (by have:k.size <= 1048576:=hx2; omega)
 have cl3:=fun W=>cl.clone q W (by have:q.size <= 1048576:=hx3; omega)
 have h0:D w x k q false ((w.alloc (.cells #[.string x,.string k,.string q] 138)).alloc (.cells #[.string ByteArray.empty,.string ByteArray.empty,.string ByteArray.empty] 138)).drew:=by
  refine ⟨(((Below.refl _ _).alloc (Nat.le_refl _) _).alloc (by simp) _).drew,?_,?_⟩
  ·exact bold (bnew w _ _) _
  ·have:=bnew (w.alloc (.cells #[.string x,.string k,.string q] 138)) #[.string ByteArray.empty,.string ByteArray.empty,.string ByteArray.empty] 138
   rw [World.size_alloc] at this
   exact this
 go_enter Tryz.func104,Tryz.ntmps104
 go_wp2
 refine dn.region_done (fin w.heap.size x k q) (dk.Cl (D w x k q) 10) (by kernel_rfl) (by kernel_rfl) rfl rfl [0,1,2] (by kernel_rfl) (fun s hs=>by simp at hs; rcases hs with rfl | rfl | rfl <;> rfl) h0 ?each ?fin
 case each =>
  refine ⟨dk.q (by decide) (.pointer (some ⟨w.heap.size,0,none⟩)) (by rintro _ ⟨⟩; rfl) (fun b W h=>by simp [execOp,go_sem,fin,Act.eval]),?_⟩
  refine ⟨dk.q (by decide) (.string x) (by rintro _ ⟨⟩; rfl) (fun b W h=>by have c:W.cell? ⟨w.heap.size,0,none⟩=some (.string x):=bcell h.2.1 rfl; simp [execOp,go_sem,fin,Act.eval,c]),?_⟩
  refine ⟨dk.call (by decide) 26 #[.string x] (.string x) (by rintro _ ⟨⟩; rfl) (fun b W h=>by simp [go_sem,fin,Act.eval]) (fun b W h=>(cl1 W).mono fun e w' ⟨h1,h2⟩=>⟨h1,h.on h2⟩),?_⟩
  refine ⟨dk.q (by decide) (.pointer (some ⟨w.heap.size,1,none⟩)) (by rintro _ ⟨⟩; rfl) (fun b W h=>by simp [execOp,go_sem,fin,Act.eval]),?_⟩
  refine ⟨dk.q (by decide) (.string k) (by rintro _ ⟨⟩; rfl) (fun b W h=>by have c:W.cell? ⟨w.heap.size,1,none⟩=some (.string k):=bcell h.2.1 rfl; simp [execOp,go_sem,fin,Act.eval,c]),?_⟩
  refine ⟨dk.call (by decide) 26 #[.string k] (.string k) (by rintro _ ⟨⟩; rfl) (fun b W h=>by simp [go_sem,fin,Act.eval]) (fun b W h=>(cl2 W).mono fun e w' ⟨h1,h2⟩=>⟨h1,h.on h2⟩),?_⟩
  refine ⟨dk.q (by decide) (.pointer (some ⟨w.heap.size,2,none⟩)) (by rintro _ ⟨⟩; rfl) (fun b W h=>by simp [execOp,go_sem,fin,Act.eval]),?_⟩
  refine ⟨dk.q (by decide) (.string q) (by rintro _ ⟨⟩; rfl) (fun b W h=>by have c:W.cell? ⟨w.heap.size,2,none⟩=some (.string q):=bcell h.2.1 rfl; simp [execOp,go_sem,fin,Act.eval,c]),?_⟩
  refine ⟨dk.call (by decide) 26 #[.string q] (.string q) (by rintro _ ⟨⟩; rfl) (fun b W h=>by simp [go_sem,fin,Act.eval]) (fun b W h=>(cl3 W).mono fun e w' ⟨h1,h2⟩=>⟨h1,h.on h2⟩),?_⟩
  refine ⟨dk.q (by decide) (.agg #[.string x,.string k,.string q]) (by rintro _ ⟨⟩; rfl) (fun b W h=>by simp [execOp,go_sem,fin,Act.eval]),?_⟩
  refine ⟨dk.last rfl (fun W h=>?_),trivial⟩
  obtain ⟨h1,h2,h3⟩:=h
  have c0:W.cell? ⟨w.heap.size+1,0,none⟩=some (.string ByteArray.empty):=bcell h3 rfl
  have c1:W.cell? ⟨w.heap.size+1,1,none⟩=some (.string ByteArray.empty):=bcell h3 rfl
  have c2:W.cell? ⟨w.heap.size+1,2,none⟩=some (.string ByteArray.empty):=bcell h3 rfl
  have f0:=bfree h3 0
  have f1:=bfree h3 1
  have f2:=bfree h3 2
  refine ⟨((W.setCell ⟨w.heap.size+1,0,none⟩ (.string x)).setCell ⟨w.heap.size+1,1,none⟩ (.string k)).setCell ⟨w.heap.size+1,2,none⟩ (.string q),by simp [execOp,go_sem,fin,Act.eval,c0,c1,c2,f0,f1,f2],?_,?_,?_⟩
  ·exact ((h1.setCell (by show w.heap.size <= w.heap.size+1; omega) _).setCell (by show w.heap.size <= w.heap.size+1; omega) _).setCell (by show w.heap.size <= w.heap.size+1; omega) _
  ·exact boff (boff (boff h2 _ _ _ (by omega)) _ _ _ (by omega)) _ _ _ (by omega)
  ·exact bset (bset (bset h3 0 (.string x)) 1 (.string k)) 2 (.string q)
 case fin =>
  intro L W hL hC
  have hC':D w x k q true W:=by
   have:=hL 10 (by decide)
   unfold dk.Cl at hC
   rw [this] at hC
   exact hC
  obtain ⟨h1,h2,h3⟩:=hC'
  have c0:W.cell? ⟨w.heap.size+1,0,none⟩=some (.string x):=bcell h3 rfl
  have c1:W.cell? ⟨w.heap.size+1,1,none⟩=some (.string k):=bcell h3 rfl
  have c2:W.cell? ⟨w.heap.size+1,2,none⟩=some (.string q):=bcell h3 rfl
  unfold fin
  go_wp2
  refine bodyPost_ret (v:=.agg #[.string x,.string k,.string q]) (by simp [results,Tryz.results104,go_sem,c0,c1,c2]) rfl ⟨rfl,h1⟩
end Go.Proofs.YtaoefccgdfcchaaGreat.cb
