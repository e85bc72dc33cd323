/- QPop, QOpen, QClosed, QPushSpec. -/
import Derived.Test.YteoojodkkjepeaaGreatKn30
import Derived.Test.YteoojodkkjepeaaGreatKn26
import Derived.Test.YteoojodkkjepeaaGreatKn22
import Derived.Test.YteoojodkkjepeaaGreatKn23
import Derived.Test.YteoojodkkjepeaaGreatKn20
set_option maxRecDepth 100000
set_option maxHeartbeats 8000000
set_option linter.unusedVariables false
namespace Go.Proofs.YteoojodkkjepeaaGreat.qpo
open ChangeShapes WideShapes ChangeAt RowKit fl qit qst qpu
theorem len_run (a:Option Addr)(n cap:Nat)(w:World):Calls Tryz.prog 182 #[.slice a n cap] w fun e w'=>e=.returned (.int .i64 n)/\w=w':=by
 go_enter Tryz.func182,Tryz.ntmps182
 go_wp2
 go_ret
 exact⟨rfl,rfl⟩
theorem push_run (W0:World)(Q:qit.Qx)(hb:Nat)(L:List flM.Ms)(r:flM.Ms)(w:World)(hS:SN W0 hb Q L w)(hH:hp.Heap less L L.length)(hr:Fits W0 W0.heap.size r)(hl:L.length <= 900) :
  Calls Tryz.prog 210 #[.iface 168 (.pointer (some ⟨hb,0,none⟩)),.iface 48 (.agg #[.int .i64 r.q,.string r.x,.string r.k,.string r.b,.bool r.a])] w fun e w'=>e=.returned (.tuple #[])/\∃ M:List flM.Ms,M.Perm (L++[r])/\hp.Heap less M M.length/\SN W0 hb Q M w'/\Kt hb w w':=by
 have hpm:=push_m W0 Q hb L r w hS hr hl
 have hmp:=meth_push hb w
 have HH:Hid (hp.Heap less L L.length):=hH
 clear hS hH hr
 go_enter Tryz.func210,Tryz.ntmps210
 go_wp2_with (go_at_call 237;fail)
 refine hpm.mono ?_
 rintro e w1 ⟨rfl,hs1,hk1⟩
 obtain⟨g,cap,hsg⟩:=hs1.sg (by simp)
 have hlen:(L++[r]).length=L.length+1:=by simp
 have hbx:w1.cell? ⟨hb,0,none⟩=some (.slice (some ⟨g,0,none⟩) (L.length+1) cap):=by rw [<- hlen];exact bcell hsg.box rfl
 have hml:=meth_len hb _ w1 hbx
 have hup:=qup.up_run W0 Q hb g cap L.length (L++[r]) w1 hsg (by omega) (by omega) (by rw [hlen];exact hp.up_new HH.out)
 have HK1:Hid (Kt hb w w1):=hk1
 have HROW:Hid (HR w1 g cap (L++[r])):=hsg.row
 clear hpm hmp hs1 hsg hlen hk1
 go_wp2_with (first | (go_at_call 182;refine(len_run _ _ _ _).mono ?_;rintro e w0 ⟨rfl,hw0⟩;rw [<- hw0];clear hw0 w0) | (go_at_call 217;fail))
 refine hup.mono ?_
 rintro e w2 ⟨rfl,M,hM,hHM,hSM,hKM⟩
 have HM:Hid (M.Perm (L++[r])/\hp.Heap less M M.length/\SN W0 hb Q M w2/\Kt hb w w2):=⟨hM,hHM,.of hSM,HK1.out.trans (Kt.kp hKM HROW.out)⟩
 clear hup hml hbx hM hHM hSM hKM
 go_wp2
 go_end0
 exact⟨rfl,M,HM.out⟩
structure Kq (hb g:Nat)(w w':World):Prop where
 os:w'.os=w.os
 tape:w'.tape=w.tape
 output:w'.output=w.output
 size:w.heap.size <= w'.heap.size
 block:∀ k,k<w.heap.size->k≠g->k≠hb->w'.heap[k]?=w.heap[k]?
theorem Kq.refl (hb g:Nat)(w:World):Kq hb g w w:=⟨rfl,rfl,rfl,Nat.le_refl _,fun _ _ _ _=>rfl⟩
theorem Kq.trans {hb g:Nat}{a b c:World}(h1:Kq hb g a b)(h2:Kq hb g b c):Kq hb g a c :=
 ⟨h2.os.trans h1.os,h2.tape.trans h1.tape,h2.output.trans h1.output,Nat.le_trans h1.size h2.size,fun k hk h3 h4=>(h2.block k (Nat.lt_of_lt_of_le hk h1.size) h3 h4).trans (h1.block k hk h3 h4)⟩
theorem Kq.of {hb g:Nat}{a b:World}(h:Kp g a b):Kq hb g a b:=⟨h.os,h.tape,h.output,h.size,fun k hk h1 _=>h.block k hk h1⟩
theorem pop_m (W0:World)(Q:qit.Qx)(hb g cap:Nat)(L:List flM.Ms)(r:flM.Ms)(w:World)(hS:SG W0 hb Q g cap (L++[r]) w)(hl:L.length <= 1000) :
  Calls Tryz.prog 236 #[.pointer (some ⟨hb,0,none⟩)] w fun e w'=>e=.returned (.iface 48 (.agg #[.int .i64 r.q,.string r.x,.string r.k,.string r.b,.bool r.a]))/\SG W0 hb Q g cap L w'/\Kq hb g w w':=by
 have hbx:w.cell? ⟨hb,0,none⟩=some (.slice (some ⟨g,0,none⟩) (L.length+1) cap):=by have:=bcell (j:=0) hS.box rfl;simpa using this
 have hat:=hS.row.at (i:=L.length) (r:=r) (by simp)
 have r0:=hat.c0
 have r1:=hat.c1
 have r2:=hat.c2
 have r3:=hat.c3
 have r4:=hat.c4
 have HS:Hid (SG W0 hb Q g cap (L++[r]) w):=hS
 have hblt:=(Array.getElem?_eq_some_iff.1 hS.box).1
 have hxb:=bold hS.box (.cells #[.int .i64 r.q,.string r.x,.string r.k,.string r.b,.bool r.a] 48)
 have hA:=bnew w #[.int .i64 r.q,.string r.x,.string r.k,.string r.b,.bool r.a] 48
 have hal:=fl.bl w (.cells #[.int .i64 r.q,.string r.x,.string r.k,.string r.b,.bool r.a] 48)
 obtain⟨X,hX⟩:∃ X,w.alloc (.cells #[.int .i64 r.q,.string r.x,.string r.k,.string r.b,.bool r.a] 48)=X:=⟨_,rfl⟩
 rw [hX] at hxb hA hal
 have x0:X.cell? ⟨hb,0,none⟩=some (.slice (some ⟨g,0,none⟩) (L.length+1) cap):=by have:=bcell (j:=0) hxb rfl;simpa using this
 have xf:X.frozen? ⟨hb,0,none⟩=false:=bfree hxb 0
 have hyA:=boff hA hb 0 (.slice (some ⟨g,0,none⟩) L.length cap) (by omega)
 have hyb:=bset hxb 0 (.slice (some ⟨g,0,none⟩) L.length cap)
 obtain⟨Y,hY⟩:∃ Y,X.setCell ⟨hb,0,none⟩ (.slice (some ⟨g,0,none⟩) L.length cap)=Y:=⟨_,rfl⟩
 rw [hY] at hyA hyb
 obtain⟨y0,y1,y2,y3,y4⟩:=fl.q5 hyA
 have hkq:Kq hb g w Y:=by
  refine⟨by rw [<- hY,<- hX];rfl,by rw [<- hY,<- hX];rfl,by rw [<- hY,<- hX];rfl,by rw [<- hY,<- hX];simp,fun k hk h1 h2=>?_⟩
  rw [<- hY,Below.heap_setCell _ _ _ k h2]
  exact hal.block k hk
 have hgB:=HS.out.gB
 have hgne:=HS.out.ne
 have hbB:=HS.out.hbB
 have hsz:=HS.out.bel.size
 have hsg:SG W0 hb Q g cap L Y:=by
  obtain⟨cur,h1,h2,h3,h4,h5⟩:=HS.out.row
  have hgl:=(Array.getElem?_eq_some_iff.1 h1).1
  refine⟨⟨hkq.os.trans HS.out.bel.os,hkq.tape.trans HS.out.bel.tape,hkq.output.trans HS.out.bel.output,Nat.le_trans hsz hkq.size,fun k hk=>(hkq.block k (by omega) (by omega) (by omega)).trans (HS.out.bel.block k hk)⟩,hbB,hgB,hgne,by simpa using hyb,⟨cur,?_,h2,by simp at h3;omega,h4,fun i q hq=>h5 i q (by rw [List.getElem?_append_left (List.getElem?_eq_some_iff.1 hq).1];exact hq)⟩,fun q hq=>HS.out.fits q (by simp [hq])⟩
  rw [<- hY,Below.heap_setCell _ _ _ g hgne]
  exact(hal.block g hgl).trans h1
 have HF:Hid (SG W0 hb Q g cap L Y/\Kq hb g w Y):=⟨hsg,hkq⟩
 have i1:(L.length:Int) <= (cap:Int):=by have:=HS.out.row;obtain⟨_,_,_,h3,_⟩:=this;simp at h3;omega
 clear hS hat hsg hkq hyA hyb hxb hA hal
 go_enter Tryz.func236,Tryz.ntmps236
 go_wp2
 go_ret
 exact⟨rfl,HF.out⟩
theorem pop_run (W0:World)(Q:qit.Qx)(hb g cap:Nat)(L:List flM.Ms)(r:flM.Ms)(w:World)(hS:SG W0 hb Q g cap L w)(h0:L[0]?=some r)(hl:L.length <= 1000)(hH:hp.Heap less L L.length) :
  Calls Tryz.prog 179 #[.iface 168 (.pointer (some ⟨hb,0,none⟩))] w fun e w'=>e=.returned (.iface 48 (.agg #[.int .i64 r.q,.string r.x,.string r.k,.string r.b,.bool r.a]))/\∃ M:List flM.Ms,(r :: M).Perm L/\hp.Heap less M M.length/\SG W0 hb Q g cap M w'/\Kq hb g w w':=by
 have hpos:=(List.getElem?_eq_some_iff.1 h0).1
 obtain⟨n,hn⟩:∃ n,L.length=n+1:=⟨L.length - 1,by omega⟩
 obtain⟨q,hq⟩:∃ q,L[n]?=some q:=⟨_,List.getElem?_eq_getElem (by omega)⟩
 have hbx:w.cell? ⟨hb,0,none⟩=some (.slice (some ⟨g,0,none⟩) L.length cap):=bcell hS.box rfl
 have hml:=meth_len hb _ w hbx
 have hms:=meth_swap hb _ w hbx
 obtain⟨cur,c1,c2,c3,_⟩:=hS.row
 have hsw:=qsw.swap_run g L.length cap 0 n cur r q w hpos (by omega) (by omega) c1 (hS.row.at h0) (hS.row.at hq)
 obtain⟨hs1,hk1⟩:=hS.swap h0 hq
 have hD:=hp.down_sw (m:=n) h0 hq (by rw [<- hn];exact hH)
 have hsl:(hp.sw L 0 n).length=n+1:=by rw [hp.sw_len,hn]
 have hlast:(hp.sw L 0 n)[n]?=some r:=hp.sw_last h0 hq
 have hperm:=hp.sw_perm h0 hq
 obtain⟨X,hX⟩:∃ X,qsw.S2 w.drew g 0 n r q=X:=⟨_,rfl⟩
 rw [hX] at hsw hs1 hk1
 have hdn:=qdn.down_run W0 Q hb g cap 0 n (hp.sw L 0 n) X hs1 (.inr rfl) (by omega) (by omega) hD
 have hmp:=fun W=>meth_pop hb W
 have HPM:Hid (∀ (M:List flM.Ms) (W:World),M.Perm (hp.sw L 0 n)->hp.Heap less M n->(∀ k,n <= k->M[k]?=(hp.sw L 0 n)[k]?)->SG W0 hb Q g cap M W->Kp g X W ->
   Calls Tryz.prog 236 #[.pointer (some ⟨hb,0,none⟩)] W fun e w'=>e=.returned (.iface 48 (.agg #[.int .i64 r.q,.string r.x,.string r.k,.string r.b,.bool r.a]))/\∃ M:List flM.Ms,(r :: M).Perm L/\hp.Heap less M M.length/\SG W0 hb Q g cap M w'/\Kq hb g w w'):=fun M W p1 p2 p3 p4 p5=>by
  have hlM:M.length=n+1:=by rw [p1.length_eq,hsl]
  have hMr:M[n]?=some r:=by rw [p3 n (Nat.le_refl _),hlast]
  have hsplit:M=M.take n++[r]:=by
   have h1:=List.take_append_getElem (l:=M) (i:=n) (by omega)
   have h2:M[n]'(by omega)=r:=(List.getElem?_eq_some_iff.1 hMr).2
   rw [h2,<- hlM,List.take_length] at h1
   exact h1.symm
  have htl:(M.take n).length=n:=by rw [List.length_take];omega
  rw [hsplit] at p4
  refine(pop_m W0 Q hb g cap (M.take n) r W p4 (by omega)).mono fun e w' ⟨hv,hs,hk⟩=>⟨hv,M.take n,?_,?_,hs,((Kq.of hk1).trans (Kq.of p5)).trans hk⟩
  ·have h3:(M.take n++[r]).Perm L:=by rw [<- hsplit];exact p1.trans hperm
   exact(List.perm_append_singleton r (M.take n)).symm.trans h3
  ·rw [htl]
   exact p2.take (Nat.le_refl _)
 rw [hn] at hml hms hsw hbx
 clear hS hH c1 c2 c3 hs1 hk1 hD hX hlast hperm hq h0
 go_enter Tryz.func179,Tryz.ntmps179
 go_wp2_with (first | (go_at_call 182;refine(len_run _ _ _ _).mono ?_;rintro e w0 ⟨rfl,hw0⟩;rw [<- hw0];clear hw0 w0) | (go_at_call 238;refine hsw.mono ?_;rintro e w1 ⟨rfl,rfl⟩) | (go_at_call 208;fail))
 refine hdn.mono ?_
 rintro e w2 ⟨⟨bb,rfl⟩,M,p1,p2,p3,p4,p5⟩
 have hpm:=HPM.out M w2 p1 p2 p3 p4 p5
 clear hdn HPM p1 p2 p3 p4 p5 hsw hml hms
 go_wp2_with (go_at_call 236;fail)
 refine hpm.mono ?_
 rintro e w3 ⟨rfl,hM⟩
 have HM:Hid (∃ M:List flM.Ms,(r :: M).Perm L/\hp.Heap less M M.length/\SG W0 hb Q g cap M w3/\Kq hb g w w3):=hM
 clear hpm hM
 go_wp2
 go_ret
 exact⟨rfl,HM.out⟩
end Go.Proofs.YteoojodkkjepeaaGreat.qpo
namespace Go.Proofs.YteoojodkkjepeaaGreat.qop
open ChangeShapes WideShapes ChangeAt RowKit fl qit qst qpu qpo
theorem asc_lt {L:List flM.Ms}(h:∀ (i:Nat) (a b:flM.Ms),L[i]?=some a->L[i+1]?=some b->a.q<b.q):∀ (d i:Nat) (a b:flM.Ms),L[i]?=some a->L[i+d+1]?=some b->a.q<b.q
 | 0,i,a,b,ha,hb=>h i a b ha hb
 | d+1,i,a,b,ha,hb=>by
  have hlt:=(List.getElem?_eq_some_iff.1 hb).1
  have hm:L[i+d+1]?=some (L[i+d+1]'(by omega)):=List.getElem?_eq_getElem _
  have h1:=asc_lt h d i a _ ha hm
  have h2:=h (i+d+1) _ b hm hb
  omega
theorem sorted_heap {L:List flM.Ms}(h:∀ (i:Nat) (a b:flM.Ms),L[i]?=some a->L[i+1]?=some b->a.q<b.q):hp.Heap less L L.length:=fun i h0 hi a b ha hb=>by
 have hpl:=hp.P_lt h0
 have:=asc_lt h (i - hp.P i - 1) (hp.P i) a b ha (by rw [show hp.P i+(i - hp.P i - 1)+1=i by omega];exact hb)
 simp only [less,decide_eq_false_iff_not]
 omega
theorem hr_own {w:World}{g:Nat}{L:List flM.Ms}(h:Own flM.c 5 48 w g L L.length)(hl:L.length <= 1048576):HR w g L.length L:=by
 obtain⟨cur,h1,h2,h3⟩:=h
 exact⟨cur,h1,h2,Nat.le_refl _,by unfold maxLen;omega,fun i r hr j v hv=>h3 i r (List.getElem?_eq_some_iff.1 hr).1 hr j v hv⟩
theorem open_of (nm:ByteArray)(nx:Int)(es:List flM.Ms)(ms:List flH.Hd)(a0 b0 ec bc:Nat)(w:World)(hn:nm.size <= 1048576)(hel:es.length <= 1048576)(hbl:ms.length <= 1048576)(hes:∀ e∈es,e.x.size <= 1048576/\e.k.size <= 1048576/\e.b.size <= 1048576)(hbs:∀ e∈ms,e.m.x.size <= 1048576/\e.m.k.size <= 1048576/\e.m.b.size <= 1048576)(hE:Row flM.c 5 w w.heap.size (some ⟨a0,0,none⟩) es)(hB:Row flH.c 7 w w.heap.size (some ⟨b0,0,none⟩) ms) :
  Calls Tryz.prog 139 #[.agg #[.string nm,.int .i64 nx,.slice (some ⟨a0,0,none⟩) es.length ec,.slice (some ⟨b0,0,none⟩) ms.length bc]] w fun e w'=>∃ hb g h,e=.returned (.pointer (some ⟨hb,0,none⟩))/\SG w hb ⟨nm,nx,some ⟨h,0,none⟩,ms.length,ms.length⟩ g es.length es w'/\Own flH.c 7 102 w' h ms ms.length/\w.heap.size <= h/\h≠hb:=by
 have hb0:=fl.bl w (.cells #[.string nm,.int .i64 nx,.slice (some ⟨a0,0,none⟩) es.length ec,.slice (some ⟨b0,0,none⟩) ms.length bc] 68)
 have hcq:=cqu.copy_queue nm nx es ms a0 b0 ec bc _ hn hel hbl hes hbs (hE.inn hb0) (hB.inn hb0)
 clear hE hB hes hbs
 go_enter Tryz.func139,Tryz.ntmps139
 go_wp2_with (go_at_call 118;fail)
 refine hcq.mono ?_
 rintro e w1 ⟨g,h,rfl,hg,hh,hgh,oe,om,hb1⟩
 have hs1:=hb1.size
 have hB1:=fl.bt hb0 hb1
 have ha1:Below w1.heap.size w1 ((w1.alloc (.cells #[.string nm,.int .i64 nx,.slice (some ⟨g,0,none⟩) es.length es.length,.slice (some ⟨h,0,none⟩) ms.length ms.length] 68)).alloc (.cells #[.slice (some ⟨g,0,none⟩) es.length es.length,.string nm,.int .i64 nx,.slice (some ⟨h,0,none⟩) ms.length ms.length] 174)):=((Below.refl _ _).alloc (Nat.le_refl _) _).alloc (by simp) _
 have hnew:=bnew (w1.alloc (.cells #[.string nm,.int .i64 nx,.slice (some ⟨g,0,none⟩) es.length es.length,.slice (some ⟨h,0,none⟩) ms.length ms.length] 68)) #[.slice (some ⟨g,0,none⟩) es.length es.length,.string nm,.int .i64 nx,.slice (some ⟨h,0,none⟩) ms.length ms.length] 174
 rw [World.size_alloc] at hnew
 have hgl:=oe.lt
 have hhl:=om.lt
 have HF:Hid (SG w (w1.heap.size+1) ⟨nm,nx,some ⟨h,0,none⟩,ms.length,ms.length⟩ g es.length es ((w1.alloc (.cells #[.string nm,.int .i64 nx,.slice (some ⟨g,0,none⟩) es.length es.length,.slice (some ⟨h,0,none⟩) ms.length ms.length] 68)).alloc (.cells #[.slice (some ⟨g,0,none⟩) es.length es.length,.string nm,.int .i64 nx,.slice (some ⟨h,0,none⟩) ms.length ms.length] 174))/\Own flH.c 7 102 ((w1.alloc (.cells #[.string nm,.int .i64 nx,.slice (some ⟨g,0,none⟩) es.length es.length,.slice (some ⟨h,0,none⟩) ms.length ms.length] 68)).alloc (.cells #[.slice (some ⟨g,0,none⟩) es.length es.length,.string nm,.int .i64 nx,.slice (some ⟨h,0,none⟩) ms.length ms.length] 174)) h ms ms.length):=by
  rw [World.size_alloc] at hg
  exact⟨⟨hB1.trans (ha1.mono hB1.size),by have:=hB1.size;omega,by omega,by omega,hnew,hr_own (oe.below ha1 hgl) hel,fun _ _=>trivial⟩,om.below ha1 hhl⟩
 have hh2:w.heap.size <= h:=by rw [World.size_alloc] at hh;omega
 clear hcq oe om hnew
 go_wp2
 go_ret
 exact⟨w1.heap.size+1,g,h,rfl,HF.out.1,HF.out.2,hh2,by omega⟩
theorem SN.on {W0:World}{hb:Nat}{Q:Qx}{L:List flM.Ms}{w w':World}(h:SN W0 hb Q L w)(hb':Below w.heap.size w w'):SN W0 hb Q L w':=by
 obtain⟨v,h1,h2,h3⟩:=h.box
 refine⟨h.bel.trans (hb'.mono h.bel.size),h.hbB,⟨v,bstay h1 hb' (Array.getElem?_eq_some_iff.1 h1).1,?_,h3⟩,h.fits⟩
 refine h2.kept (row:=none) ⟨hb'.os,hb'.tape,hb'.output,hb'.size,fun i hi _=>hb'.block i hi⟩ ?_
 cases hv:v.ownBlock with
 | none=>exact .inl rfl
 | some g=>right;simp
theorem put_run (W0:World)(Q:Qx)(hb:Nat)(L:List flM.Ms)(r:flM.Ms)(w:World)(hS:SN W0 hb Q L w)(hH:hp.Heap less L L.length)(hl:L.length <= 900) :
  Calls Tryz.prog 183 #[.pointer (some ⟨hb,0,none⟩),.agg #[.int .i64 r.q,.string r.x,.string r.k,.string r.b,.bool r.a]] w fun e w'=>e=.returned (.tuple #[])/\∃ M:List flM.Ms,M.Perm (L++[r])/\hp.Heap less M M.length/\SN W0 hb Q M w'/\Kt hb w w':=by
 have hal:=fl.bl w (.cells #[.int .i64 r.q,.string r.x,.string r.k,.string r.b,.bool r.a] 48)
 have hpu:=push_run W0 Q hb L r _ (SN.on hS hal) hH trivial hl
 clear hS hH
 go_enter Tryz.func183,Tryz.ntmps183
 go_wp2_with (go_at_call 210;fail)
 refine hpu.mono ?_
 rintro e w1 ⟨rfl,M,h1,h2,h3,h4⟩
 have HF:Hid (M.Perm (L++[r])/\hp.Heap less M M.length/\SN W0 hb Q M w1/\Kt hb w w1):=⟨h1,h2,h3,(Kt.of hal).trans h4⟩
 clear hpu h1 h2 h3 h4
 go_wp2
 go_end0
 exact⟨rfl,M,HF.out⟩
theorem SG.off {W0:World}{hb g cap:Nat}{Q:Qx}{L:List flM.Ms}{w:World}(h:SG W0 hb Q g cap L w)(b o:Nat)(v:Value)(h1:hb≠b)(h2:g≠b)(h3:W0.heap.size <= b):SG W0 hb Q g cap L (w.setCell ⟨b,o,none⟩ v) :=
 ⟨h.bel.setCell h3 v,h.hbB,h.gB,h.ne,boff h.box b o v h1,h.row.below (Below.heap_setCell _ _ _ g h2),h.fits⟩
theorem Kq.off {hb g b:Nat}{a w:World}(h:Kq hb g a w)(o:Nat)(v:Value)(hb':a.heap.size <= b):Kq hb g a (w.setCell ⟨b,o,none⟩ v):=by
 have h0:Below 0 w (w.setCell ⟨b,o,none⟩ v):=(Below.refl 0 w).setCell (Nat.zero_le _) v
 exact⟨h0.os.trans h.os,h0.tape.trans h.tape,h0.output.trans h.output,Nat.le_trans h.size h0.size,fun k hk h1 h2=>(Below.heap_setCell _ _ _ k (by show k≠b;omega)).trans (h.block k hk h1 h2)⟩
theorem Kq.on {hb g:Nat}{a w w':World}(h:Kq hb g a w)(hb':Below w.heap.size w w'):Kq hb g a w' :=
 ⟨hb'.os.trans h.os,hb'.tape.trans h.tape,hb'.output.trans h.output,Nat.le_trans h.size hb'.size,fun k hk h1 h2=>(hb'.block k (Nat.lt_of_lt_of_le hk h.size)).trans (h.block k hk h1 h2)⟩
theorem first_run (W0:World)(Q:Qx)(hb g cap:Nat)(L:List flM.Ms)(r:flM.Ms)(w:World)(hS:SG W0 hb Q g cap L w)(h0:L[0]?=some r)(hl:L.length <= 1000)(hH:hp.Heap less L L.length) :
  Calls Tryz.prog 140 #[.pointer (some ⟨hb,0,none⟩)] w fun e w'=>e=.returned (.agg #[.int .i64 r.q,.string r.x,.string r.k,.string r.b,.bool r.a])/\∃ M:List flM.Ms,(r :: M).Perm L/\hp.Heap less M M.length/\SG W0 hb Q g cap M w'/\Kq hb g w w':=by
 have hal:=fl.bl w (.cells #[.int .i64 0,.string ⟨#[]⟩,.string ⟨#[]⟩,.string ⟨#[]⟩,.bool false] 48)
 have hX:=bnew w #[.int .i64 0,.string ⟨#[]⟩,.string ⟨#[]⟩,.string ⟨#[]⟩,.bool false] 48
 have hgl:g<w.heap.size:=by obtain⟨cur,h1,_⟩:=hS.row;exact(Array.getElem?_eq_some_iff.1 h1).1
 have hbl:hb<w.heap.size:=(Array.getElem?_eq_some_iff.1 hS.box).1
 have hWB:W0.heap.size <= w.heap.size:=hS.bel.size
 have hpo:=pop_run W0 Q hb g cap L r _ (hS.on hal) h0 hl hH
 have hta:∀ W:World,(Instr.typeAssert (.iface 48 (.agg #[.int .i64 r.q,.string r.x,.string r.k,.string r.b,.bool r.a])) 20 48 true).run Tryz.prog W=.ok (.tuple #[.agg #[.int .i64 r.q,.string r.x,.string r.k,.string r.b,.bool r.a],.bool true]) W:=fun W=>by kernel_rfl
 have HAL:Hid (Kq hb g w (w.alloc (.cells #[.int .i64 0,.string ⟨#[]⟩,.string ⟨#[]⟩,.string ⟨#[]⟩,.bool false] 48))):=⟨hal.os,hal.tape,hal.output,hal.size,fun k hk _ _=>hal.block k hk⟩
 have HX:Hid ((w.alloc (.cells #[.int .i64 0,.string ⟨#[]⟩,.string ⟨#[]⟩,.string ⟨#[]⟩,.bool false] 48)).heap[w.heap.size]?=some (.cells #[.int .i64 0,.string ⟨#[]⟩,.string ⟨#[]⟩,.string ⟨#[]⟩,.bool false] 48 (0,0))):=hX
 clear hS hH h0 hX
 go_enter Tryz.func140,Tryz.ntmps140
 go_wp2_with (go_at_call 179;fail)
 refine hpo.mono ?_
 rintro e w1 ⟨rfl,M,h1,h2,h3,h4⟩
 have x1:=(h4.block w.heap.size (by simp) (by omega) (by omega)).trans HX.out
 have hal2:=fl.bl w1 (.cells #[.int .i64 r.q,.string r.x,.string r.k,.string r.b,.bool r.a] 48)
 have hwl:=(Array.getElem?_eq_some_iff.1 x1).1
 have y1:=bold x1 (.cells #[.int .i64 r.q,.string r.x,.string r.k,.string r.b,.bool r.a] 48)
 obtain⟨Y,hY⟩:∃ Y,w1.alloc (.cells #[.int .i64 r.q,.string r.x,.string r.k,.string r.b,.bool r.a] 48)=Y:=⟨_,rfl⟩
 rw [hY] at hal2 y1
 have hN:=bnew w1 #[.int .i64 r.q,.string r.x,.string r.k,.string r.b,.bool r.a] 48
 rw [hY] at hN
 obtain⟨z0,z1,z2,z3,z4⟩:=fl.q5 y1
 obtain⟨f0,f1,f2,f3,f4⟩:=fl.r5 y1
 obtain⟨n0,n1,n2,n3,n4⟩:=fl.q5 hN
 have hwB:W0.heap.size <= w.heap.size:=hWB
 have HF:Hid ((r :: M).Perm L/\hp.Heap less M M.length/\SG W0 hb Q g cap M Y/\Kq hb g w Y):=⟨h1,h2,h3.on hal2,Kq.on (HAL.out.trans h4) hal2⟩
 clear hpo h1 h2 h3 h4 x1 y1 hN hal2
 go_wp2
 refine bodyPost_ret (v:=.agg #[.int .i64 r.q,.string r.x,.string r.k,.string r.b,.bool r.a]) (by simp [results,Tryz.results140,go_sem,z0,z1,z2,z3,z4]) rfl ⟨rfl,M,HF.out.1,HF.out.2.1,?_,?_⟩
 ·exact SG.off (SG.off (SG.off (SG.off (SG.off HF.out.2.2.1 _ _ _ (by omega) (by omega) hwB) _ _ _ (by omega) (by omega) hwB) _ _ _ (by omega) (by omega) hwB) _ _ _ (by omega) (by omega) hwB) _ _ _ (by omega) (by omega) hwB
 ·exact Kq.off (Kq.off (Kq.off (Kq.off (Kq.off HF.out.2.2.2 _ _ (Nat.le_refl _)) _ _ (Nat.le_refl _)) _ _ (Nat.le_refl _)) _ _ (Nat.le_refl _)) _ _ (Nat.le_refl _)
end Go.Proofs.YteoojodkkjepeaaGreat.qop
namespace Go.Proofs.YteoojodkkjepeaaGreat.qcl
open ChangeShapes WideShapes ChangeAt RowKit fl qit qst qpu qpo qop
def Le (a b:flM.Ms):Prop:=a.q <= b.q
structure St (W0:World)(Q:Qx)(hb g cap:Nat)(L:List flM.Ms)(w:World)(B:Nat)(v:Value)(R M:List flM.Ms)(wr:World):Prop where
 sg:SG W0 hb Q g cap M wr
 kq:Kq hb g w wr
 hp:hp.Heap less M M.length
 pm:(R++M).Perm L
 so:R.Pairwise Le
 lo:∀ a∈R,∀ b∈M,Le a b
 ow:wr.ownsRow B 48 5 v R.length (R.flatMap flM.c)
theorem St.step {W0:World}{Q:Qx}{hb g cap B:Nat}{L R M M':List flM.Ms}{w wr:World}{v:Value}{r:flM.Ms}(h:St W0 Q hb g cap L w B v R M wr)(h0:M[0]?=some r)(hp':(r :: M').Perm M):(R++[r]++M').Perm L/\(R++[r]).Pairwise Le/\∀ a∈R++[r],∀ b∈M',Le a b:=by
 have hr:r∈M:=List.mem_of_getElem? h0
 have hmin:∀ b∈M,Le r b:=fun b hb=>by
  obtain⟨i,hi⟩:=List.mem_iff_getElem?.1 hb
  have:=h.hp.head ord (Nat.le_refl _) i (List.getElem?_eq_some_iff.1 hi).1 r b h0 hi
  simp only [less,decide_eq_false_iff_not] at this
  unfold Le
  omega
 refine⟨?_,List.pairwise_append.2 ⟨h.so,List.pairwise_singleton _ _,fun a ha b hb=>by rw [List.mem_singleton] at hb;subst hb;exact h.lo a ha _ hr⟩,fun a ha b hb=>?_⟩
 ·rw [List.append_assoc]
  exact(List.Perm.append_left R hp').trans h.pm
 ·have hbM:b∈M:=hp'.mem_iff.1 (List.mem_cons_of_mem _ hb)
  rcases List.mem_append.1 ha with ha | ha
  ·exact h.lo a ha b hbM
  ·rw [List.mem_singleton] at ha;subst ha;exact hmin b hbM
theorem made0 (w:World)(n B:Nat)(hB:B <= w.heap.size)(hn:n <= 1048576):(w.alloc (.cells (madeCells #[.int .i64 0,.string ByteArray.empty,.string ByteArray.empty,.string ByteArray.empty,.bool false] (n*5)) 48)).ownsRow B 48 5 (.slice (some ⟨w.heap.size,0,none⟩) 0 n) 0 [] :=
 ⟨by simp,.inr ⟨w.heap.size,n,_,rfl,hB,bnew w _ _,Nat.zero_le _,by unfold maxLen;omega,size_madeCells _ _,by simp⟩⟩
theorem make0 (W:World)(n:Nat)(hn:n <= 1048576):(Instr.makeSlice 65 (.int .i64 0) (.int .i64 (n:Int))).run Tryz.prog W=.ok (.slice (some ⟨W.heap.size,0,none⟩) 0 n) (W.alloc (.cells (madeCells #[.int .i64 0,.string ByteArray.empty,.string ByteArray.empty,.string ByteArray.empty,.bool false] (n*5)) 48)):=by
 obtain⟨i0,hi,hz0,hz1,hz2⟩:=qa.infoM
 have hmk:=run_makeSlice (P:=Tryz.prog) W 65 48 i0 _ Tryz.underlying65 hi hz0 .i64 .i64 (0:Int) (n:Int) (by omega) (by omega) (by rw [hz1];simp;omega) (by rw [hz2];omega) (by omega)
 rw [hz1,show ((n:Int)).toNat=n by omega] at hmk
 exact hmk
def lenOf:Value->Nat
 | .slice _ n _=>n
 | _=>0
theorem own_block {w w':World}{B n m:Nat}{U:TypeId}{v:Value}{xs:List Value}(h:w.ownsRow B U n v m xs)(hb:∀ g,v.ownBlock=some g->w'.heap[g]?=w.heap[g]?):w'.ownsRow B U n v m xs:=by
 obtain⟨h1,h2 | ⟨g,cap,cur,h3,h4,h5,h6⟩⟩:=h
 ·exact⟨h1,.inl h2⟩
 ·exact⟨h1,.inr ⟨g,cap,cur,h3,h4,(hb g (by rw [h3];rfl)).trans h5,h6⟩⟩
theorem blk_eq {gr n c k:Nat}(h:(Value.slice (some ⟨gr,0,none⟩) n c).ownBlock=some k):gr=k:=by simpa [Value.ownBlock] using h
theorem sg_below {W0:World}{hb g cap B:Nat}{Q:Qx}{L:List flM.Ms}{w w':World}(h:SG W0 hb Q g cap L w)(hb':Below B w w')(h1:hb<B)(h2:g<B)(h3:W0.heap.size <= B):SG W0 hb Q g cap L w' :=
 ⟨h.bel.trans (hb'.mono h3),h.hbB,h.gB,h.ne,(hb'.block hb h1).trans h.box,h.row.below (hb'.block g h2),h.fits⟩
theorem kq_below {hb g B:Nat}{a w w':World}(h:Kq hb g a w)(hb':Below B w w')(h1:a.heap.size <= B):Kq hb g a w' :=
 ⟨hb'.os.trans h.os,hb'.tape.trans h.tape,hb'.output.trans h.output,Nat.le_trans h.size hb'.size,fun k hk h2 h3=>(hb'.block k (Nat.lt_of_lt_of_le hk h1)).trans (h.block k hk h2 h3)⟩
def wz (hb gr cr n:Nat)(Q:Qx):List (Nat × Value):=[(21,.pointer (some ⟨hb,0,none⟩)),(22,.pointer (some ⟨hb,0,none⟩)),(23,.pointer (some ⟨hb,1,none⟩)),(24,.string Q.nm),(25,.pointer (some ⟨hb,0,none⟩)),(26,.pointer (some ⟨hb,0,none⟩)),(27,.pointer (some ⟨hb,2,none⟩)),(28,.int .i64 Q.nx),(29,.slice (some ⟨gr,0,none⟩) n cr),(30,.pointer (some ⟨hb,0,none⟩)),(31,.pointer (some ⟨hb,0,none⟩)),(32,.pointer (some ⟨hb,3,none⟩)),(33,.slice Q.ha Q.hn Q.hc),(34,.agg #[.string Q.nm,.int .i64 Q.nx,.slice (some ⟨gr,0,none⟩) n cr,.slice Q.ha Q.hn Q.hc])]
def set4 (w:World)(b:Nat)(x0 x1 x2 x3:Value):World:=(((w.setCell ⟨b,0,none⟩ x0).setCell ⟨b,1,none⟩ x1).setCell ⟨b,2,none⟩ x2).setCell ⟨b,3,none⟩ x3
def Dz (hb gr cr n g m cap rb:Nat)(Q:Qx)(Y:World)(b:Bool)(W:World):Prop:=W.heap[hb]?=some (.cells #[.slice (some ⟨g,0,none⟩) m cap,.string Q.nm,.int .i64 Q.nx,.slice Q.ha Q.hn Q.hc] 174 (0,0))/\W=if b then set4 Y rb (.string Q.nm) (.int .i64 Q.nx) (.slice (some ⟨gr,0,none⟩) n cr) (.slice Q.ha Q.hn Q.hc) else Y
theorem closed_run (W0:World)(Q:Qx)(hb g cap:Nat)(L:List flM.Ms)(w:World)(hS:SG W0 hb Q g cap L w)(hl:L.length <= 900)(hH:hp.Heap less L L.length) :
  Calls Tryz.prog 143 #[.pointer (some ⟨hb,0,none⟩)] w fun e w'=>∃ (R:List flM.Ms) (gr cr:Nat),e=.returned (.agg #[.string Q.nm,.int .i64 Q.nx,.slice (some ⟨gr,0,none⟩) R.length cr,.slice Q.ha Q.hn Q.hc])/\R.Perm L/\R.Pairwise Le/\w'.ownsRow w.heap.size 48 5 (.slice (some ⟨gr,0,none⟩) R.length cr) R.length (R.flatMap flM.c)/\Kq hb g w w':=by
 have hgl:g<w.heap.size:=by obtain⟨cur,h1,_⟩:=hS.row;exact(Array.getElem?_eq_some_iff.1 h1).1
 have hbl:hb<w.heap.size:=(Array.getElem?_eq_some_iff.1 hS.box).1
 have hWB:W0.heap.size <= w.heap.size:=hS.bel.size
 have hal:=fl.bl w (.cells #[.string ⟨#[]⟩,.int .i64 0,.slice none 0 0,.slice none 0 0] 68)
 have hZ:=bnew w #[.string ⟨#[]⟩,.int .i64 0,.slice none 0 0,.slice none 0 0] 68
 obtain⟨X,hX⟩:∃ X,w.alloc (.cells #[.string ⟨#[]⟩,.int .i64 0,.slice none 0 0,.slice none 0 0] 68)=X:=⟨_,rfl⟩
 have hXs:X.heap.size=w.heap.size+1:=by rw [<- hX];simp
 rw [hX] at hal hZ
 have hbx:X.cell? ⟨hb,0,none⟩=some (.slice (some ⟨g,0,none⟩) L.length cap):=bcell (hS.on hal).box rfl
 have hmk:=make0 X L.length (by omega)
 have hal2:=fl.bl X (.cells (madeCells #[.int .i64 0,.string ByteArray.empty,.string ByteArray.empty,.string ByteArray.empty,.bool false] (L.length*5)) 48)
 have how:=made0 X L.length (w.heap.size+1) (by omega) (by omega)
 have hZ2:=bold hZ (.cells (madeCells #[.int .i64 0,.string ByteArray.empty,.string ByteArray.empty,.string ByteArray.empty,.bool false] (L.length*5)) 48)
 obtain⟨Y,hY⟩:∃ Y,X.alloc (.cells (madeCells #[.int .i64 0,.string ByteArray.empty,.string ByteArray.empty,.string ByteArray.empty,.bool false] (L.length*5)) 48)=Y:=⟨_,rfl⟩
 rw [hY] at hmk hal2 how hZ2
 have hwY:=fl.bt hal hal2
 have HS0:Hid (St W0 Q hb g cap L w (w.heap.size+1) (.slice (some ⟨X.heap.size,0,none⟩) 0 L.length) [] L Y):=⟨(hS.on hal).on hal2,⟨hwY.os,hwY.tape,hwY.output,hwY.size,fun k hk _ _=>hwY.block k hk⟩,hH,List.Perm.refl _,List.Pairwise.nil,fun a ha=>(by cases ha),how⟩
 have HZ0:Hid (Y.heap[w.heap.size]?=some (.cells #[.string ⟨#[]⟩,.int .i64 0,.slice none 0 0,.slice none 0 0] 68 (0,0))):=hZ2
 clear hS hH hal hal2 how hZ hZ2 hwY
 go_enter Tryz.func143,Tryz.ntmps143
 go_wp2_with (go_at_call 182;refine(len_run _ _ _ _).mono ?_;rintro e w0 ⟨rfl,hw0⟩;rw [<- hw0];clear hw0 w0)
 clear hX hY hmk hbx
 go_loopw [3] (fun v wr=>∃ (R M:List flM.Ms) (gr cr:Nat),v=.slice (some ⟨gr,0,none⟩) R.length cr/\Hid (St W0 Q hb g cap L w (w.heap.size+1) (.slice (some ⟨gr,0,none⟩) R.length cr) R M wr/\wr.heap[w.heap.size]?=some (.cells #[.string ⟨#[]⟩,.int .i64 0,.slice none 0 0,.slice none 0 0] 68 (0,0)))) (fun v _=>L.length - lenOf v)
 case atStart=>exact⟨[],L,X.heap.size,L.length,by rw [hXs];rfl,HS0.out,HZ0.out⟩
 case round =>
  obtain⟨R,M,gr,cr,rfl,hst⟩:=hrel
  clear HS0 HZ0
  obtain⟨hs,hz⟩:=hst.out
  have hbx:wr.cell? ⟨hb,0,none⟩=some (.slice (some ⟨g,0,none⟩) M.length cap):=bcell hs.sg.box rfl
  have hln:=hs.pm.length_eq
  rw [List.length_append] at hln
  cases hM:M with
  | nil =>
   subst hM
   have b1:wr.cell? ⟨hb,1,none⟩=some (.string Q.nm):=bcell hs.sg.box rfl
   have b2:wr.cell? ⟨hb,2,none⟩=some (.int .i64 Q.nx):=bcell hs.sg.box rfl
   have b3:wr.cell? ⟨hb,3,none⟩=some (.slice Q.ha Q.hn Q.hc):=bcell hs.sg.box rfl
   obtain⟨z0,z1,z2,z3⟩:=fl.q4 hz
   obtain⟨f0,f1,f2,f3⟩:=fl.r4 hz
   have hbx:wr.cell? ⟨hb,0,none⟩=some (.slice (some ⟨g,0,none⟩) 0 cap):=hbx
   have HF:Hid (R.Perm L/\R.Pairwise Le/\wr.ownsRow (w.heap.size+1) 48 5 (.slice (some ⟨gr,0,none⟩) R.length cr) R.length (R.flatMap flM.c)/\Kq hb g w wr):=⟨by simpa using hs.pm,hs.so,hs.ow,hs.kq⟩
   have hgr:w.heap.size+1 <= gr:=(hs.ow.lt gr rfl).1
   have HBX:Hid (wr.heap[hb]?=some (.cells #[.slice (some ⟨g,0,none⟩) 0 cap,.string Q.nm,.int .i64 Q.nx,.slice Q.ha Q.hn Q.hc] 174 (0,0))):=hs.sg.box
   clear hs hz hst
   go_wp2_with (go_at_call 182;refine(len_run _ _ _ _).mono ?_;rintro e w0 ⟨rfl,hw0⟩;rw [<- hw0];clear hw0 w0)
   obtain⟨V,hV⟩:∃ V,wr.drew=V:=⟨_,rfl⟩
   have e0:V.cell? ⟨w.heap.size,0,none⟩=some (.string ⟨#[]⟩):=by rw [<- hV];exact z0
   have e1:V.cell? ⟨w.heap.size,1,none⟩=some (.int .i64 0):=by rw [<- hV];exact z1
   have e2:V.cell? ⟨w.heap.size,2,none⟩=some (.slice none 0 0):=by rw [<- hV];exact z2
   have e3:V.cell? ⟨w.heap.size,3,none⟩=some (.slice none 0 0):=by rw [<- hV];exact z3
   have k0:V.frozen? ⟨w.heap.size,0,none⟩=false:=by rw [<- hV];exact f0
   have k1:V.frozen? ⟨w.heap.size,1,none⟩=false:=by rw [<- hV];exact f1
   have k2:V.frozen? ⟨w.heap.size,2,none⟩=false:=by rw [<- hV];exact f2
   have k3:V.frozen? ⟨w.heap.size,3,none⟩=false:=by rw [<- hV];exact f3
   have HVB:Hid (Below wr.heap.size wr V):=by unfold Hid;rw [<- hV];exact(Below.refl _ _).drew
   refine dk.region_sets (wz hb gr cr R.length Q) [21,22,23,24,25,26,27,28,29,30,31,32,33,34] (dk.Cl (Dz hb gr cr R.length g 0 cap w.heap.size Q V) 14) (by kernel_rfl) (by kernel_rfl) rfl (by kernel_rfl) ⟨(by rw [hV];exact(HVB.out.block hb (Array.getElem?_eq_some_iff.1 HBX.out).1).trans HBX.out),hV⟩ ?each ?fin
   case each =>
    refine⟨dk.q (by decide) (Value.pointer (some ⟨hb,0,none⟩)) (by rintro _ ⟨⟩;exact dk.sets_on _ (by simp) _ rfl) (fun b W h=>by simp [execOp,go_sem,Act.eval,dk.sets_get,wz,List.lookup]),?_⟩
    refine⟨dk.q (by decide) (Value.pointer (some ⟨hb,0,none⟩)) (by rintro _ ⟨⟩;exact dk.sets_on _ (by simp) _ rfl) (fun b W h=>by simp [execOp,go_sem,Act.eval,dk.sets_get,wz,List.lookup]),?_⟩
    refine⟨dk.q (by decide) (.pointer (some ⟨hb,1,none⟩)) (by rintro _ ⟨⟩;exact dk.sets_on _ (by simp) _ rfl) (fun b W h=>by simp [execOp,go_sem,Act.eval,dk.sets_get,wz,List.lookup]),?_⟩
    refine⟨dk.q (by decide) (.string Q.nm) (by rintro _ ⟨⟩;exact dk.sets_on _ (by simp) _ rfl) (fun b W h=>by have c:W.cell? ⟨hb,1,none⟩=some (.string Q.nm):=bcell h.1 rfl;simp [execOp,go_sem,Act.eval,dk.sets_get,wz,List.lookup,c]),?_⟩
    refine⟨dk.q (by decide) (Value.pointer (some ⟨hb,0,none⟩)) (by rintro _ ⟨⟩;exact dk.sets_on _ (by simp) _ rfl) (fun b W h=>by simp [execOp,go_sem,Act.eval,dk.sets_get,wz,List.lookup]),?_⟩
    refine⟨dk.q (by decide) (Value.pointer (some ⟨hb,0,none⟩)) (by rintro _ ⟨⟩;exact dk.sets_on _ (by simp) _ rfl) (fun b W h=>by simp [execOp,go_sem,Act.eval,dk.sets_get,wz,List.lookup]),?_⟩
    refine⟨dk.q (by decide) (.pointer (some ⟨hb,2,none⟩)) (by rintro _ ⟨⟩;exact dk.sets_on _ (by simp) _ rfl) (fun b W h=>by simp [execOp,go_sem,Act.eval,dk.sets_get,wz,List.lookup]),?_⟩
    refine⟨dk.q (by decide) (.int .i64 Q.nx) (by rintro _ ⟨⟩;exact dk.sets_on _ (by simp) _ rfl) (fun b W h=>by have c:W.cell? ⟨hb,2,none⟩=some (.int .i64 Q.nx):=bcell h.1 rfl;simp [execOp,go_sem,Act.eval,dk.sets_get,wz,List.lookup,c]),?_⟩
    refine⟨dk.q (by decide) (.slice (some ⟨gr,0,none⟩) R.length cr) (by rintro _ ⟨⟩;exact dk.sets_on _ (by simp) _ rfl) (fun b W h=>by simp [execOp,go_sem,Act.eval,dk.sets_get,wz,List.lookup]),?_⟩
    refine⟨dk.q (by decide) (Value.pointer (some ⟨hb,0,none⟩)) (by rintro _ ⟨⟩;exact dk.sets_on _ (by simp) _ rfl) (fun b W h=>by simp [execOp,go_sem,Act.eval,dk.sets_get,wz,List.lookup]),?_⟩
    refine⟨dk.q (by decide) (Value.pointer (some ⟨hb,0,none⟩)) (by rintro _ ⟨⟩;exact dk.sets_on _ (by simp) _ rfl) (fun b W h=>by simp [execOp,go_sem,Act.eval,dk.sets_get,wz,List.lookup]),?_⟩
    refine⟨dk.q (by decide) (.pointer (some ⟨hb,3,none⟩)) (by rintro _ ⟨⟩;exact dk.sets_on _ (by simp) _ rfl) (fun b W h=>by simp [execOp,go_sem,Act.eval,dk.sets_get,wz,List.lookup]),?_⟩
    refine⟨dk.q (by decide) (.slice Q.ha Q.hn Q.hc) (by rintro _ ⟨⟩;exact dk.sets_on _ (by simp) _ rfl) (fun b W h=>by have c:W.cell? ⟨hb,3,none⟩=some (.slice Q.ha Q.hn Q.hc):=bcell h.1 rfl;simp [execOp,go_sem,Act.eval,dk.sets_get,wz,List.lookup,c]),?_⟩
    refine⟨dk.q (by decide) (.agg #[.string Q.nm,.int .i64 Q.nx,.slice (some ⟨gr,0,none⟩) R.length cr,.slice Q.ha Q.hn Q.hc]) (by rintro _ ⟨⟩;exact dk.sets_on _ (by simp) _ rfl) (fun b W h=>by simp [execOp,go_sem,Act.eval,dk.sets_get,wz,List.lookup]),?_⟩
    refine⟨dk.last rfl (fun W h=>?_),trivial⟩
    obtain⟨h1,h2⟩:=h
    have h2:W=V:=h2
    rw [h2] at h1 ⊢
    clear h2
    refine⟨set4 V w.heap.size (.string Q.nm) (.int .i64 Q.nx) (.slice (some ⟨gr,0,none⟩) R.length cr) (.slice Q.ha Q.hn Q.hc),by simp [execOp,go_sem,Act.eval,dk.sets_get,wz,List.lookup,e0,e1,e2,e3,k0,k1,k2,k3,set4],?_,rfl⟩
    unfold set4
    exact boff (boff (boff (boff h1 _ _ _ (by omega)) _ _ _ (by omega)) _ _ _ (by omega)) _ _ _ (by omega)
   case fin =>
    intro L' W hL hC
    have hC':W=set4 V w.heap.size (.string Q.nm) (.int .i64 Q.nx) (.slice (some ⟨gr,0,none⟩) R.length cr) (.slice Q.ha Q.hn Q.hc):=by
     have:=hL 14 (by decide)
     unfold dk.Cl at hC
     rw [this] at hC
     exact hC.2
    subst hC'
    clear hC hL
    simp only [dk.sets,wz,set4]
    go_wp2
    refine bodyPost_ret (v:=.agg #[.string Q.nm,.int .i64 Q.nx,.slice (some ⟨gr,0,none⟩) R.length cr,.slice Q.ha Q.hn Q.hc]) (by simp [results,Tryz.results143,go_sem,e0,e1,e2,e3]) rfl ⟨R,gr,cr,rfl,HF.out.1,HF.out.2.1,?_,?_⟩
    ·have h1:wr.ownsRow w.heap.size 48 5 (.slice (some ⟨gr,0,none⟩) R.length cr) R.length (R.flatMap flM.c):=by
      obtain⟨h1,h2 | ⟨g',cap',cur,h3,h4,h5⟩⟩:=HF.out.2.2.1
      ·exact⟨h1,.inl h2⟩
      ·exact⟨h1,.inr ⟨g',cap',cur,h3,by omega,h5⟩⟩
     have ob:∀ (V:World) (o:Nat) (u:Value),V.ownsRow w.heap.size 48 5 (.slice (some ⟨gr,0,none⟩) R.length cr) R.length (R.flatMap flM.c)->(V.setCell ⟨w.heap.size,o,none⟩ u).ownsRow w.heap.size 48 5 (.slice (some ⟨gr,0,none⟩) R.length cr) R.length (R.flatMap flM.c):=fun V o u h=>own_block h (fun k hk=>Below.heap_setCell _ _ _ k (by have:=blk_eq hk;show k≠w.heap.size;omega))
     have hd:V.ownsRow w.heap.size 48 5 (.slice (some ⟨gr,0,none⟩) R.length cr) R.length (R.flatMap flM.c):=own_block h1 (fun k hk=>HVB.out.block k (h1.lt k hk).2)
     exact ob _ _ _ (ob _ _ _ (ob _ _ _ (ob _ _ _ hd)))
    ·exact Kq.off (Kq.off (Kq.off (Kq.off (Kq.on HF.out.2.2.2 HVB.out) _ _ (Nat.le_refl _)) _ _ (Nat.le_refl _)) _ _ (Nat.le_refl _)) _ _ (Nat.le_refl _)
  | cons r M0 =>
   rw [hM] at hs hbx hln
   have h0:(r :: M0)[0]?=some r:=rfl
   have hfi:=first_run W0 Q hb g cap (r :: M0) r wr hs.sg h0 (by omega) hs.hp
   obtain⟨ML,hML⟩:∃ ML,(r :: M0).length=ML:=⟨_,rfl⟩
   rw [hML] at hbx hln
   have hpos:0<ML:=by rw [<- hML];simp
   have hpi:(0:Int)<(ML:Int):=by omega
   have HST:Hid (St W0 Q hb g cap L w (w.heap.size+1) (.slice (some ⟨gr,0,none⟩) R.length cr) R (r :: M0) wr/\wr.heap[w.heap.size]?=some (.cells #[.string ⟨#[]⟩,.int .i64 0,.slice none 0 0,.slice none 0 0] 68 (0,0))):=⟨hs,hz⟩
   have hgr:w.heap.size+1 <= gr/\gr<wr.heap.size:=hs.ow.lt gr rfl
   clear hs hz hst hM hML
   go_wp2_with (first | (go_at_call 182;refine(len_run _ _ _ _).mono ?_;rintro e w0 ⟨rfl,hw0⟩;rw [<- hw0];clear hw0 w0) | (go_at_call 140;fail))
   refine hfi.mono ?_
   rintro e w1 ⟨rfl,M',hp1,hp2,hp3,hp4⟩
   obtain⟨q1,q2,q3⟩:=St.step HST.out.1 h0 hp1
   have ow1:=own_block HST.out.1.ow (fun k hk=>hp4.block k (by have:=blk_eq hk;omega) (by have:=blk_eq hk;omega) (by have:=blk_eq hk;omega))
   have hz1:=(hp4.block w.heap.size (Array.getElem?_eq_some_iff.1 HST.out.2).1 (by omega) (by omega)).trans HST.out.2
   have hw1s:w.heap.size+1 <= w1.heap.size:=(Array.getElem?_eq_some_iff.1 hz1).1
   have hal:=fl.bl w1 (.cells #[.int .i64 r.q,.string r.x,.string r.k,.string r.b,.bool r.a] 48)
   have hall:qa.All (w1.alloc (.cells #[.int .i64 r.q,.string r.x,.string r.k,.string r.b,.bool r.a] 48)) (w.heap.size+1) (.slice (some ⟨gr,0,none⟩) R.length cr) R:=.inr ⟨gr,cr,rfl,own_block ow1 (fun k hk=>hal.block k (by have:=blk_eq hk;have:=hp4.size;omega))⟩
   obtain⟨v',w',hrun,hall',hbw'⟩:=qa.app_one r hall (by simp;omega) (by omega) (bnew w1 _ _) 65
   have HRUN:Hid ((Builtin.append_ #[65,65] 65 #[.slice (some ⟨gr,0,none⟩) R.length cr,.slice (some ⟨w1.heap.size,0,none⟩) 1 1]).run Tryz.prog (w1.alloc (.cells #[.int .i64 r.q,.string r.x,.string r.k,.string r.b,.bool r.a] 48))=.ok v' w'):=hrun
   have hB:Below (w.heap.size+1) w1 w':=(hal.mono hw1s).trans hbw'
   obtain⟨g2,c2,hv2,ho2⟩:∃ g2 c2,v'=.slice (some ⟨g2,0,none⟩) (R++[r]).length c2/\w'.ownsRow (w.heap.size+1) 48 5 (.slice (some ⟨g2,0,none⟩) (R++[r]).length c2) (R++[r]).length ((R++[r]).flatMap flM.c):=by
    rcases hall' with⟨h9,_⟩ | h9
    ·simp at h9
    ·exact h9
   subst hv2
   have HN:Hid (St W0 Q hb g cap L w (w.heap.size+1) (.slice (some ⟨g2,0,none⟩) (R++[r]).length c2) (R++[r]) M' w'/\w'.heap[w.heap.size]?=some (.cells #[.string ⟨#[]⟩,.int .i64 0,.slice none 0 0,.slice none 0 0] 68 (0,0))) :=
    ⟨⟨sg_below hp3 hB (by omega) (by omega) (by omega),kq_below (HST.out.1.kq.trans hp4) hB (by omega),hp2,q1,q2,q3,ho2⟩,(hB.block w.heap.size (by omega)).trans hz1⟩
   have hR1:(R++[r]).length=R.length+1:=by simp
   clear hfi hp1 hp2 hp3 hp4 q1 q2 q3 ow1 hz1 hal hall hrun hall' hbw' hB ho2 HST hbx
   go_wp2_with (at_builtin;refine cpr.wpList_append_run rfl _ _ 65 65 rfl _ _ _ rfl rfl HRUN.out ?_)
   go_wp2
   go_roundw
   case rel=>exact⟨R++[r],M',g2,c2,by rw [hR1],HN⟩
   case measure=>simp [lenOf];omega
end Go.Proofs.YteoojodkkjepeaaGreat.qcl
namespace Go.Proofs.YteoojodkkjepeaaGreat.qps
open ChangeShapes WideShapes ChangeAt RowKit fl qsp
end Go.Proofs.YteoojodkkjepeaaGreat.qps
