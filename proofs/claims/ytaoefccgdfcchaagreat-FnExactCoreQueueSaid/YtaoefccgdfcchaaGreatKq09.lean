/- StreamLib, SuRows, SuTos. -/
import Derived.Test.YtaoefccgdfcchaaGreatKq03
import Derived.Test.YtaoefccgdfcchaaGreatKq06
set_option maxRecDepth 100000
set_option maxHeartbeats 8000000
set_option linter.unusedVariables false
namespace Go.Proofs.YtaoefccgdfcchaaGreat.sl
open ChangeShapes WideShapes ChangeAt RowKit fl
theorem eq_stream (nm:ByteArray) (lo nx:Int) (rs:List flY.En) (hs:List rr.Ex) (ra ra' ha ha':Option Addr) (rc rc' hc hc':Nat) (w:World) (hrl:rs.length <= maxLen) (hhl:hs.length <= maxLen) (h1:Row flY.c 3 w w.heap.size ra rs) (h2:Row flY.c 3 w w.heap.size ra' rs) (h3:Row flK.c 2 w w.heap.size ha hs) (h4:Row flK.c 2 w w.heap.size ha' hs) :
  Calls Tryz.prog 71 #[.agg #[.string nm,.int .i64 lo,.int .i64 nx,.slice ra rs.length rc,.slice ha hs.length hc],.agg #[.string nm,.int .i64 lo,.int .i64 nx,.slice ra' rs.length rc',.slice ha' hs.length hc']] w fun e w'=>e=.returned (.bool true)/\Below w.heap.size w w':=by
 obtain ⟨W,hW,hb,hA,hB,_⟩:=fl.bx2 w #[.string nm,.int .i64 lo,.int .i64 nx,.slice ra rs.length rc,.slice ha hs.length hc] #[.string nm,.int .i64 lo,.int .i64 nx,.slice ra' rs.length rc',.slice ha' hs.length hc'] 54 54
 have he:=flY.eq_all rs ra ra' rc rc' W hrl (h1.inn hb) (h2.inn hb)
 have HB3:Hid (Row flK.c 2 W W.heap.size ha hs):=h3.inn hb
 have HB4:Hid (Row flK.c 2 W W.heap.size ha' hs):=h4.inn hb
 have x0:W.cell? ⟨w.heap.size,0,none⟩=some (.string nm):=bcell hA rfl
 have x1:W.cell? ⟨w.heap.size,1,none⟩=some (.int .i64 lo):=bcell hA rfl
 have x1b:W.cell? ⟨w.heap.size,2,none⟩=some (.int .i64 nx):=bcell hA rfl
 have x2:W.cell? ⟨w.heap.size,3,none⟩=some (.slice ra rs.length rc):=bcell hA rfl
 have y0:W.cell? ⟨w.heap.size+1,0,none⟩=some (.string nm):=bcell hB rfl
 have y1:W.cell? ⟨w.heap.size+1,1,none⟩=some (.int .i64 lo):=bcell hB rfl
 have y1b:W.cell? ⟨w.heap.size+1,2,none⟩=some (.int .i64 nx):=bcell hB rfl
 have y2:W.cell? ⟨w.heap.size+1,3,none⟩=some (.slice ra' rs.length rc'):=bcell hB rfl
 have HA:Hid (W.heap[w.heap.size]?=some (.cells #[.string nm,.int .i64 lo,.int .i64 nx,.slice ra rs.length rc,.slice ha hs.length hc] 54 (0,0))):=hA
 have HBB:Hid (W.heap[w.heap.size+1]?=some (.cells #[.string nm,.int .i64 lo,.int .i64 nx,.slice ra' rs.length rc',.slice ha' hs.length hc'] 54 (0,0))):=hB
 have la:=(Array.getElem?_eq_some_iff.1 hA).1
 have lb:=(Array.getElem?_eq_some_iff.1 hB).1
 clear h1 h2 h3 h4 hA hB
 go_enter Tryz.func71,Tryz.ntmps71
 go_wp2_with (go_at_call 132; fail)
 refine he.mono ?_
 rintro e w1 ⟨rfl,hb1⟩
 have x1:w1.cell? ⟨w.heap.size,4,none⟩=some (.slice ha hs.length hc):=bcell (bstay HA.out hb1 la) rfl
 have y1:w1.cell? ⟨w.heap.size+1,4,none⟩=some (.slice ha' hs.length hc'):=bcell (bstay HBB.out hb1 lb) rfl
 have hq:=flK.eq_all hs ha ha' hc hc' w1 hhl (HB3.out.inn hb1) (HB4.out.inn hb1)
 clear he x0 x2 y0 y2 hW
 go_wp2_with (go_at_call 133; refine hq.mono ?_; rintro e w2 ⟨rfl,hb2⟩)
 go_ret
 exact ⟨rfl,hb.trans ((hb1.trans (hb2.mono hb1.size)).mono hb.size)⟩
theorem to_stream (nm:ByteArray) (lo nx:Int) (rs:List flY.En) (hs:List rr.Ex) (ra ha:Option Addr) (rc hc:Nat) (w:World) (hrl:rs.length <= 1048576) (hhl:hs.length <= 1048576) (hR:Row flY.c 3 w w.heap.size ra rs) (hH:Row flK.c 2 w w.heap.size ha hs) :
  Calls Tryz.prog 50 #[.agg #[.string nm,.int .i64 lo,.int .i64 nx,.slice ra rs.length rc,.slice ha hs.length hc]] w fun e w'=>∃ g h,e=.returned (.agg #[.string nm,.int .i64 lo,.int .i64 nx,.slice (some ⟨g,0,none⟩) rs.length rs.length,.slice (some ⟨h,0,none⟩) hs.length hs.length])/\w.heap.size <= g/\w.heap.size <= h/\g ≠ h /\
   Own flY.c 3 134 w' g rs rs.length/\Own flK.c 2 136 w' h hs hs.length/\Below w.heap.size w w':=by
 have hb:Below w.heap.size w (((w.alloc (.cells #[.string nm,.int .i64 lo,.int .i64 nx,.slice ra rs.length rc,.slice ha hs.length hc] 85)).alloc (.cells #[.string ByteArray.empty,.int .i64 0,.int .i64 0,.slice none 0 0,.slice none 0 0] 54)).alloc (.cells #[.string nm,.int .i64 lo,.int .i64 nx,.slice none 0 0,.slice none 0 0] 54)):=(((Below.refl _ _).alloc (Nat.le_refl _) _).alloc (by simp) _).alloc (by simp; omega) _
 have hA:=bold (bold (bnew w #[.string nm,.int .i64 lo,.int .i64 nx,.slice ra rs.length rc,.slice ha hs.length hc] 85) (.cells #[.string ByteArray.empty,.int .i64 0,.int .i64 0,.slice none 0 0,.slice none 0 0] 54)) (.cells #[.string nm,.int .i64 lo,.int .i64 nx,.slice none 0 0,.slice none 0 0] 54)
 have hRr:=bold (bnew (w.alloc (.cells #[.string nm,.int .i64 lo,.int .i64 nx,.slice ra rs.length rc,.slice ha hs.length hc] 85)) #[.string ByteArray.empty,.int .i64 0,.int .i64 0,.slice none 0 0,.slice none 0 0] 54) (.cells #[.string nm,.int .i64 lo,.int .i64 nx,.slice none 0 0,.slice none 0 0] 54)
 have hO:=bnew ((w.alloc (.cells #[.string nm,.int .i64 lo,.int .i64 nx,.slice ra rs.length rc,.slice ha hs.length hc] 85)).alloc (.cells #[.string ByteArray.empty,.int .i64 0,.int .i64 0,.slice none 0 0,.slice none 0 0] 54)) #[.string nm,.int .i64 lo,.int .i64 nx,.slice none 0 0,.slice none 0 0] 54
 rw [World.size_alloc] at hRr
 rw [World.size_alloc,World.size_alloc] at hO
 have hS:(((w.alloc (.cells #[.string nm,.int .i64 lo,.int .i64 nx,.slice ra rs.length rc,.slice ha hs.length hc] 85)).alloc (.cells #[.string ByteArray.empty,.int .i64 0,.int .i64 0,.slice none 0 0,.slice none 0 0] 54)).alloc (.cells #[.string nm,.int .i64 lo,.int .i64 nx,.slice none 0 0,.slice none 0 0] 54)).heap.size=w.heap.size+3:=by simp
 obtain ⟨W,hW⟩:∃ W,((w.alloc (.cells #[.string nm,.int .i64 lo,.int .i64 nx,.slice ra rs.length rc,.slice ha hs.length hc] 85)).alloc (.cells #[.string ByteArray.empty,.int .i64 0,.int .i64 0,.slice none 0 0,.slice none 0 0] 54)).alloc (.cells #[.string nm,.int .i64 lo,.int .i64 nx,.slice none 0 0,.slice none 0 0] 54)=W:=⟨_,rfl⟩
 rw [hW] at hb hA hRr hO hS
 have he:=flY.to_all rs ra rc W hrl (hR.inn hb)
 have hS3:w.heap.size+3 <= W.heap.size:=by omega
 have HH:Hid (Row flK.c 2 w w.heap.size ha hs):=hH
 have x0:W.cell? ⟨w.heap.size,3,none⟩=some (.slice ra rs.length rc):=bcell hA rfl
 have HA:Hid (W.heap[w.heap.size]?=some (.cells #[.string nm,.int .i64 lo,.int .i64 nx,.slice ra rs.length rc,.slice ha hs.length hc] 85 (0,0))):=hA
 have HR:Hid (W.heap[w.heap.size+1]?=some (.cells #[.string ByteArray.empty,.int .i64 0,.int .i64 0,.slice none 0 0,.slice none 0 0] 54 (0,0))):=hRr
 have HO:Hid (W.heap[w.heap.size+1+1]?=some (.cells #[.string nm,.int .i64 lo,.int .i64 nx,.slice none 0 0,.slice none 0 0] 54 (0,0))):=hO
 clear hR hH hA hRr hO hS
 go_enter Tryz.func50,Tryz.ntmps50
 go_wp2_with (go_at_call 102; fail)
 rw [<- hW] at he
 refine he.mono ?_
 rintro e w1 ⟨rfl,hre,hb1⟩
 rw [hW] at hre hb1 ⊢
 clear hW he
 have hs1:=hb1.size
 have o1:=bstay HO.out hb1 (by omega)
 have o0c:w1.cell? ⟨w.heap.size+1+1,3,none⟩=some (.slice none 0 0):=bcell o1 rfl
 have o0f:=bfree o1 3
 have o2:(w1.setCell ⟨w.heap.size+1+1,3,none⟩ (.slice (some ⟨W.heap.size,0,none⟩) rs.length rs.length)).heap[w.heap.size+1+1]?=some (.cells #[.string nm,.int .i64 lo,.int .i64 nx,.slice (some ⟨W.heap.size,0,none⟩) rs.length rs.length,.slice none 0 0] 54 (0,0)):=bset o1 3 (.slice (some ⟨W.heap.size,0,none⟩) rs.length rs.length)
 have a2:=boff (bstay HA.out hb1 (by omega)) (w.heap.size+1+1) 3 (.slice (some ⟨W.heap.size,0,none⟩) rs.length rs.length) (by omega)
 have r2:=boff (bstay HR.out hb1 (by omega)) (w.heap.size+1+1) 3 (.slice (some ⟨W.heap.size,0,none⟩) rs.length rs.length) (by omega)
 have hbw2:Below w.heap.size w (w1.setCell ⟨w.heap.size+1+1,3,none⟩ (.slice (some ⟨W.heap.size,0,none⟩) rs.length rs.length)):=(hb.trans (hb1.mono (by omega))).setCell (by show w.heap.size <= w.heap.size+1+1; omega) _
 have re2:Own flY.c 3 134 (w1.setCell ⟨w.heap.size+1+1,3,none⟩ (.slice (some ⟨W.heap.size,0,none⟩) rs.length rs.length)) W.heap.size rs rs.length:=hre.kept (Below.heap_setCell w1 _ _ _ (by show W.heap.size ≠ w.heap.size+1+1; omega))
 have hsz2:(w1.setCell ⟨w.heap.size+1+1,3,none⟩ (.slice (some ⟨W.heap.size,0,none⟩) rs.length rs.length)).heap.size=w1.heap.size:=by simp
 have hq:=flK.to_all hs ha hc _ hhl (HH.out.inn hbw2)
 obtain ⟨W2,hW2⟩:∃ W2,w1.setCell ⟨w.heap.size+1+1,3,none⟩ (.slice (some ⟨W.heap.size,0,none⟩) rs.length rs.length)=W2:=⟨_,rfl⟩
 rw [hW2] at o2 a2 r2 hbw2 re2 hsz2 hq
 have a1c:W2.cell? ⟨w.heap.size,4,none⟩=some (.slice ha hs.length hc):=bcell a2 rfl
 have HO2:Hid (W2.heap[w.heap.size+1+1]?=some (.cells #[.string nm,.int .i64 lo,.int .i64 nx,.slice (some ⟨W.heap.size,0,none⟩) rs.length rs.length,.slice none 0 0] 54 (0,0))):=o2
 have HR2:Hid (W2.heap[w.heap.size+1]?=some (.cells #[.string ByteArray.empty,.int .i64 0,.int .i64 0,.slice none 0 0,.slice none 0 0] 54 (0,0))):=r2
 have HRE:Hid (Own flY.c 3 134 W2 W.heap.size rs rs.length):=re2
 have hl2:w.heap.size+3 <= W2.heap.size:=by omega
 have hlt2:W.heap.size < W2.heap.size:=re2.lt
 clear x0 hre o1 o2 a2 r2 re2
 go_wp2_with (go_at_call 103; fail)
 clear hW2
 refine hq.mono ?_
 rintro e w3 ⟨rfl,hrb,hb3⟩
 have hs3:=hb3.size
 have u:=bstay HO2.out hb3 (by omega)
 have v:=bstay HR2.out hb3 (by omega)
 obtain ⟨u0,u1,u1b,u2,u3⟩:=fl.q5 u
 have uf:=bfree u 4
 obtain ⟨v0,v1,v1b,v2,v3⟩:=fl.q5 v
 obtain ⟨vf0,vf1,vf1b,vf2,vf3⟩:=fl.r5 v
 have HRB:Hid (Own flK.c 2 136 w3 W2.heap.size hs hs.length):=hrb
 have HRE3:Hid (Own flY.c 3 134 w3 W.heap.size rs rs.length):=HRE.out.below hb3 hlt2
 have hbw3:Below w.heap.size w w3:=hbw2.trans (hb3.mono (by omega))
 clear hq u v hrb a1c o0c o0f
 go_wp2
 refine bodyPost_ret (v:=.agg #[.string nm,.int .i64 lo,.int .i64 nx,.slice (some ⟨W.heap.size,0,none⟩) rs.length rs.length,.slice (some ⟨W2.heap.size,0,none⟩) hs.length hs.length]) (by simp [results,Tryz.results50,go_sem,v0,v1,v1b,v2,v3]) rfl ⟨W.heap.size,W2.heap.size,rfl,by omega,by omega,by omega,?_,?_,?_⟩
 ·exact (((((HRE3.out.kept (Below.heap_setCell _ _ _ _ (by show W.heap.size ≠ w.heap.size+1+1; omega))).kept (Below.heap_setCell _ _ _ _ (by show W.heap.size ≠ w.heap.size+1; omega))).kept (Below.heap_setCell _ _ _ _ (by show W.heap.size ≠ w.heap.size+1; omega))).kept (Below.heap_setCell _ _ _ _ (by show W.heap.size ≠ w.heap.size+1; omega))).kept (Below.heap_setCell _ _ _ _ (by show W.heap.size ≠ w.heap.size+1; omega))).kept (Below.heap_setCell _ _ _ _ (by show W.heap.size ≠ w.heap.size+1; omega))
 ·exact (((((HRB.out.kept (Below.heap_setCell _ _ _ _ (by show W2.heap.size ≠ w.heap.size+1+1; omega))).kept (Below.heap_setCell _ _ _ _ (by show W2.heap.size ≠ w.heap.size+1; omega))).kept (Below.heap_setCell _ _ _ _ (by show W2.heap.size ≠ w.heap.size+1; omega))).kept (Below.heap_setCell _ _ _ _ (by show W2.heap.size ≠ w.heap.size+1; omega))).kept (Below.heap_setCell _ _ _ _ (by show W2.heap.size ≠ w.heap.size+1; omega))).kept (Below.heap_setCell _ _ _ _ (by show W2.heap.size ≠ w.heap.size+1; omega))
 ·exact (((((hbw3.setCell (by show w.heap.size <= w.heap.size+1+1; omega) _).setCell (by show w.heap.size <= w.heap.size+1; omega) _).setCell (by show w.heap.size <= w.heap.size+1; omega) _).setCell (by show w.heap.size <= w.heap.size+1; omega) _).setCell (by show w.heap.size <= w.heap.size+1; omega) _).setCell (by show w.heap.size <= w.heap.size+1; omega) _
end Go.Proofs.YtaoefccgdfcchaaGreat.sl
namespace Go.Proofs.YtaoefccgdfcchaaGreat.su
open ChangeShapes WideShapes ChangeAt RowKit fl
structure E where
 nm:ByteArray
 lo:Int
 nx:Int
 ra:Option Addr
 rc:Nat
 rs:List flY.En
 ha:Option Addr
 hc:Nat
 hs:List rr.Ex
def c (r:E):List Value:=[.string r.nm,.int .i64 r.lo,.int .i64 r.nx,.slice r.ra r.rs.length r.rc,.slice r.ha r.hs.length r.hc]
theorem c_len (r:E):(c r).length=5:=rfl
def V (w:World) (B:Nat) (a:Option Addr) (l:List E):Prop:=Row c 5 w B a l/\∀ r ∈ l,Row flY.c 3 w B r.ra r.rs/\Row flK.c 2 w B r.ha r.hs
theorem V.inn {w w':World} {a:Option Addr} {l:List E} (h:V w w.heap.size a l) (hb:Below w.heap.size w w'):V w' w'.heap.size a l:=⟨h.1.inn hb,fun r hr=>⟨(h.2 r hr).1.inn hb,(h.2 r hr).2.inn hb⟩⟩
def wt (r:E):Nat:=r.nm.size+r.rs.length+bulk flY.wt r.rs+r.hs.length+bulk flK.wt r.hs
def ok (r:E):Prop:=r.nm.size <= maxLen/\r.rs.length <= maxLen/\r.hs.length <= maxLen/\(∀ e ∈ r.rs,flY.ok e)/\∀ e ∈ r.hs,flK.ok e
theorem sz_one (nm:ByteArray) (lo nx:Int) (rs:List flY.En) (hs:List rr.Ex) (ra ha:Option Addr) (rc hc:Nat) (left:Int) (w:World) (h0:-1 <= left) (h1:left <= 1048576) (hnm:nm.size <= maxLen) (hrl:rs.length <= maxLen) (hhl:hs.length <= maxLen) (hro:∀ e ∈ rs,flY.ok e) (hho:∀ e ∈ hs,flK.ok e) (hR:Row flY.c 3 w w.heap.size ra rs) (hH:Row flK.c 2 w w.heap.size ha hs) :
  Calls Tryz.prog 40 #[.agg #[.string nm,.int .i64 lo,.int .i64 nx,.slice ra rs.length rc,.slice ha hs.length hc],.int .i64 left] w fun e w'=>∃ r:Int,e=.returned (.int .i64 r)/\(0 <= r->r=left - nm.size - rs.length - bulk flY.wt rs - hs.length - bulk flK.wt hs)/\-1 <= r/\r <= 1048576/\Below w.heap.size w w':=by
 have hnm':nm.size <= 9223372036854775807:=hnm
 by_cases hneg:left - nm.size < 0
 ·go_enter Tryz.func40,Tryz.ntmps40
  go_wp2
  go_ret
  exact ⟨-1,rfl,by omega,by omega,by omega,(Below.refl _ _).alloc (Nat.le_refl _) _⟩
 have hb:=fl.bl w (.cells #[.string nm,.int .i64 lo,.int .i64 nx,.slice ra rs.length rc,.slice ha hs.length hc] 85)
 have hA:=bnew w #[.string nm,.int .i64 lo,.int .i64 nx,.slice ra rs.length rc,.slice ha hs.length hc] 85
 obtain ⟨W,hW⟩:∃ W,w.alloc (.cells #[.string nm,.int .i64 lo,.int .i64 nx,.slice ra rs.length rc,.slice ha hs.length hc] 85)=W:=⟨_,rfl⟩
 rw [hW] at hb hA
 have he:=flY.sz_all rs ra rc (left - nm.size) W hrl hro (by omega) (by omega) (hR.inn hb)
 have HB3:Hid (Row flK.c 2 W W.heap.size ha hs):=hH.inn hb
 have x0:W.cell? ⟨w.heap.size,0,none⟩=some (.string nm):=bcell hA rfl
 have x2:W.cell? ⟨w.heap.size,3,none⟩=some (.slice ra rs.length rc):=bcell hA rfl
 have HA:Hid (W.heap[w.heap.size]?=some (.cells #[.string nm,.int .i64 lo,.int .i64 nx,.slice ra rs.length rc,.slice ha hs.length hc] 85 (0,0))):=hA
 have la:=(Array.getElem?_eq_some_iff.1 hA).1
 have HBS:Hid (∀ e ∈ hs,flK.ok e):=hho
 clear hR hH hA hro hho
 go_enter Tryz.func40,Tryz.ntmps40
 go_wp2_with (go_at_call 89; fail)
 refine he.mono ?_
 rintro e w1 ⟨r,rfl,hr,hr0,hr1,hb1⟩
 clear hW x0 x2
 by_cases hneg:r < 0
 ·go_wp2
  go_ret
  exact ⟨-1,rfl,by omega,by omega,by omega,hb.trans (hb1.mono hb.size)⟩
 ·have x1:w1.cell? ⟨w.heap.size,4,none⟩=some (.slice ha hs.length hc):=bcell (bstay HA.out hb1 la) rfl
  have hq:=flK.sz_all hs ha hc r w1 hhl HBS.out (by omega) (by omega) (HB3.out.inn hb1)
  have HR:Hid (r=left - nm.size - rs.length - bulk flY.wt rs):=hr (by omega)
  clear he hr
  go_wp2_with (go_at_call 90; fail)
  refine hq.mono ?_
  rintro e w2 ⟨r2,rfl,hr2,hr20,hr21,hb2⟩
  have hfin:Below w.heap.size w w2:=hb.trans ((hb1.trans (hb2.mono hb1.size)).mono hb.size)
  have HR2:Hid (0 <= r2->r2=r - hs.length - bulk flK.wt hs):=hr2
  clear hq hr2
  by_cases hneg2:r2 < 0
  ·go_wp2
   go_ret
   exact ⟨-1,rfl,by omega,by omega,by omega,hfin⟩
  ·go_wp2
   go_ret
   exact ⟨r2,rfl,fun h=>by have h3:=HR2.out h; have h4:=HR.out; omega,by omega,by omega,hfin⟩
theorem sz_all (l:List E) (a:Option Addr) (cap:Nat) (left:Int) (w:World) (hl:l.length <= maxLen) (hx:∀ e ∈ l,ok e) (h0:-1 <= left) (h1:left <= 1048576) (hS:V w w.heap.size a l) :
  Calls Tryz.prog 13 #[.slice a l.length cap,.int .i64 left] w fun e w'=>∃ r:Int,e=.returned (.int .i64 r)/\(0 <= r->r=left - l.length - bulk wt l)/\-1 <= r/\r <= 1048576/\Below w.heap.size w w':=by
 have hl':=hl
 unfold maxLen at hl'
 by_cases hneg:left - l.length < 0
 ·go_enter Tryz.func13,Tryz.ntmps13
  go_wp2
  go_ret
  exact ⟨-1,rfl,by omega,by omega,by omega,Below.refl _ _⟩
 have HVR:Hid (∀ r ∈ l,Row flY.c 3 w w.heap.size r.ra r.rs/\Row flK.c 2 w w.heap.size r.ha r.hs):=hS.2
 rcases hS.1 with rfl | ⟨b,off,rfl,hlt,hc⟩
 ·go_enter Tryz.func13,Tryz.ntmps13
  go_wp2
  refine wp_loop_rounds 1 ?_
  rw [rounds_succ]
  go_wp2
  go_ret
  exact ⟨_,rfl,fun _=>by simp [bulk],by simp at hneg; omega,by simp at hneg; omega,Below.refl _ _⟩
 ·have HC:Hid (∀ (i:Nat) (e:E),l[i]?=some e->∀ (j:Nat) (v:Value),(c e)[j]?=some v->w.cell? ⟨b,off+i*5+j,none⟩=some v):=hc
  have HX:Hid (∀ e ∈ l,ok e):=hx
  clear hc hx hS
  go_enter Tryz.func13,Tryz.ntmps13
  go_wp2
  go_loopw [1,5] (fun y x wr=>∃ k:Nat,k <= l.length/\x=.int .i64 k/\y=.int .i64 (left - l.length - bulk wt (l.take k))/\0 <= left - l.length - bulk wt (l.take k)/\Below w.heap.size w wr) (fun _ x _=>l.length - (intOf x).toNat)
  case atStart=>exact ⟨0,Nat.zero_le _,rfl,by simp [bulk],by simp [bulk]; omega,Below.refl _ _⟩
  case round =>
   obtain ⟨k,hk,rfl,rfl,hr0,hbel⟩:=hrel
   have hbs:=hbel.size
   by_cases hkl:k < l.length
   ·have HG:Hid (l[k]?=some l[k]):=List.getElem?_eq_getElem hkl
    have hxs:=HX.out l[k] (List.getElem_mem hkl)
    have hrow:=HVR.out l[k] (List.getElem_mem hkl)
    have HBK:Hid (bulk wt (l.take (k+1))=bulk wt (l.take k)+wt l[k]):=bulk_take wt hkl
    obtain ⟨⟨nm,lo,nx,ra,rc,rs,ha,hc,hs⟩,he⟩:∃ e,l[k]=e:=⟨_,rfl⟩
    rw [he] at hxs HBK HG hrow
    have c0:wr.cell? ⟨b,off+k*5,none⟩=some (.string nm):=(hbel.cell (p:=⟨b,off+k*5,none⟩) hlt).trans (by have:=HC.out k _ HG.out 0 _ rfl; simpa using this)
    have c1:wr.cell? ⟨b,off+k*5+1,none⟩=some (.int .i64 lo):=(hbel.cell (p:=⟨b,off+k*5+1,none⟩) hlt).trans (by have:=HC.out k _ HG.out 1 _ rfl; simpa using this)
    have c2:wr.cell? ⟨b,off+k*5+2,none⟩=some (.int .i64 nx):=(hbel.cell (p:=⟨b,off+k*5+2,none⟩) hlt).trans (by have:=HC.out k _ HG.out 2 _ rfl; simpa using this)
    have c3:wr.cell? ⟨b,off+k*5+3,none⟩=some (.slice ra rs.length rc):=(hbel.cell (p:=⟨b,off+k*5+3,none⟩) hlt).trans (by have:=HC.out k _ HG.out 3 _ rfl; simpa using this)
    have c4:wr.cell? ⟨b,off+k*5+4,none⟩=some (.slice ha hs.length hc):=(hbel.cell (p:=⟨b,off+k*5+4,none⟩) hlt).trans (by have:=HC.out k _ HG.out 4 _ rfl; simpa using this)
    obtain ⟨m,hm⟩:∃ m,bulk wt (l.take k)=m:=⟨_,rfl⟩
    rw [hm] at HBK hr0 ⊢
    have hone:=sz_one nm lo nx rs hs ra ha rc hc (left - l.length - m) wr (by omega) (by omega) hxs.1 hxs.2.1 hxs.2.2.1 hxs.2.2.2.1 hxs.2.2.2.2 ((hrow.1).inn hbel) ((hrow.2).inn hbel)
    obtain ⟨wv,hwt⟩:∃ wv,wt ⟨nm,lo,nx,ra,rc,rs,ha,hc,hs⟩=wv:=⟨_,rfl⟩
    have HWV:Hid (nm.size+rs.length+bulk flY.wt rs+hs.length+bulk flK.wt hs=wv):=hwt
    rw [hwt] at HBK
    clear hm he hwt hxs hrow
    go_wp2_with (go_at_call 40; fail)
    refine hone.mono ?_
    rintro e w1 ⟨r,rfl,hr,hr1,hr2,hb1⟩
    clear hone c0 c1 c2 c3 c4
    by_cases hlo:r < 0
    ·go_wp2
     go_ret
     exact ⟨-1,rfl,by omega,by omega,by omega,hbel.trans (hb1.mono hbs)⟩
    ·have HRR:Hid (r=left - l.length - m - (wv:Int)):=by have h1:=hr (by omega); have h2:=HWV.out; unfold Hid; omega
     have hr3:(0:Int) <= r:=by omega
     clear hr
     go_wp2
     go_roundw
     case rel=>exact ⟨k+1,by omega,by go_num,by rw [HBK.out,HRR.out]; congr 1; omega,by rw [HBK.out]; have:=HRR.out; omega,hbel.trans (hb1.mono hbs)⟩
     case measure=>simp [intOf]; omega
   ·obtain rfl:k=l.length:=by omega
    rw [List.take_length] at hr0 ⊢
    go_wp2
    go_ret
    exact ⟨_,rfl,fun _=>rfl,by omega,by omega,hbel⟩
end Go.Proofs.YtaoefccgdfcchaaGreat.su
namespace Go.Proofs.YtaoefccgdfcchaaGreat.su
open ChangeShapes WideShapes ChangeAt RowKit fl
def same (r s:E):Prop:=r.nm=s.nm/\r.lo=s.lo/\r.nx=s.nx/\r.rs=s.rs/\r.hs=s.hs
def Mine (w:World) (B:Nat) (r:E):Prop:=∃ g h,r.ra=some ⟨g,0,none⟩/\r.ha=some ⟨h,0,none⟩/\B <= g/\B <= h/\g ≠ h/\Own flY.c 3 134 w g r.rs r.rs.length/\Own flK.c 2 136 w h r.hs r.hs.length/\r.rs.length <= r.rc/\r.hs.length <= r.hc
theorem Mine.below {w w':World} {B:Nat} {r:E} (m:Mine w B r) (hb:Below w.heap.size w w'):Mine w' B r:=by
 obtain ⟨g,h,h1,h2,h3,h4,h0,h5,h6,h7⟩:=m
 exact ⟨g,h,h1,h2,h3,h4,h0,h5.below hb h5.lt,h6.below hb h6.lt,h7⟩
theorem Mine.set {w:World} {B:Nat} {r:E} (m:Mine w B r) {x o:Nat} (hx:x < B) (v:Value):Mine (w.setCell ⟨x,o,none⟩ v) B r:=by
 obtain ⟨g,h,h1,h2,h3,h4,h0,h5,h6,h7⟩:=m
 exact ⟨g,h,h1,h2,h3,h4,h0,h5.kept (Below.heap_setCell _ _ _ _ (by show g ≠ x; omega)),h6.kept (Below.heap_setCell _ _ _ _ (by show h ≠ x; omega)),h7⟩
def Blk (r:E) (b:Nat):Prop:=(∃ o,r.ra=some ⟨b,o,none⟩) ∨ ∃ o,r.ha=some ⟨b,o,none⟩
theorem Mine.lt {w:World} {B b:Nat} {r:E} (m:Mine w B r) (hb:Blk r b):B <= b/\b < w.heap.size:=by
 obtain ⟨g,h,h1,h2,h3,h4,h0,h5,h6,h7⟩:=m
 rcases hb with ⟨o,e⟩ | ⟨o,e⟩
 ·rw [h1] at e; cases e; exact ⟨h3,h5.lt⟩
 ·rw [h2] at e; cases e; exact ⟨h4,h6.lt⟩
theorem Mine.rows {w:World} {B:Nat} {r:E} (m:Mine w B r):Row flY.c 3 w w.heap.size r.ra r.rs/\Row flK.c 2 w w.heap.size r.ha r.hs:=by
 obtain ⟨g,h,h1,h2,h3,h4,h0,h5,h6,h7⟩:=m
 rw [h1,h2]
 exact ⟨h5.row,h6.row⟩
theorem own_change {w:World} {g k:Nat} {U:TypeId} {l l':List E} (h:Own c 5 U w g l k) (hl:l'.length=l.length) (he:∀ i,i < k->l'[i]?=l[i]?):Own c 5 U w g l' k:=by
 obtain ⟨cur,h1,h2,h3⟩:=h
 exact ⟨cur,h1,by rw [h2,hl],fun i e hi hx=>h3 i e hi (by rw [<- he i hi]; exact hx)⟩
structure So (w:World) (B g:Nat) (l ks:List E) (k:Nat):Prop where
 len:ks.length=l.length
 own:Own c 5 54 w g ks k
 mine:∀ (j:Nat) (r:E),j < k->ks[j]?=some r->Mine w B r
 same:∀ (j:Nat) (r s:E),j < k->ks[j]?=some r->l[j]?=some s->same r s
 ord:∀ (i j:Nat) (r s:E),i < j->j < k->ks[i]?=some r->ks[j]?=some s->∀ b b',Blk r b->Blk s b'->b < b'
theorem So.more {w:World} {B x k g h:Nat} {l ks:List E} {nm:ByteArray} {lo nx:Int} {ra ha:Option Addr} {rc hc:Nat} {rs:List flY.En} {hs:List rr.Ex} (so:So w B x l ks k) (hlo:∀ (j:Nat) (r:E),j < k->ks[j]?=some r->∀ b,Blk r b->b < g/\b < h) (hx:x < B) (hk:l[k]?=some ⟨nm,lo,nx,ra,rc,rs,ha,hc,hs⟩) (hg:B <= g) (hh:B <= h) (hgh:g ≠ h) (h1:Own flY.c 3 134 w g rs rs.length) (h2:Own flK.c 2 136 w h hs hs.length) :
  So (((((w.setCell ⟨x,k*5,none⟩ (.string nm)).setCell ⟨x,k*5+1,none⟩ (.int .i64 lo)).setCell ⟨x,k*5+2,none⟩ (.int .i64 nx)).setCell ⟨x,k*5+3,none⟩ (.slice (some ⟨g,0,none⟩) rs.length rs.length)).setCell ⟨x,k*5+4,none⟩ (.slice (some ⟨h,0,none⟩) hs.length hs.length)) B x l (ks.set k ⟨nm,lo,nx,some ⟨g,0,none⟩,rs.length,rs,some ⟨h,0,none⟩,hs.length,hs⟩) (k+1):=by
 have hkl:=(List.getElem?_eq_some_iff.1 hk).1
 have hlen:=so.len
 have hget:(ks.set k ⟨nm,lo,nx,some ⟨g,0,none⟩,rs.length,rs,some ⟨h,0,none⟩,hs.length,hs⟩)[k]?=some ⟨nm,lo,nx,some ⟨g,0,none⟩,rs.length,rs,some ⟨h,0,none⟩,hs.length,hs⟩:=by rw [List.getElem?_set_self (by omega)]
 have hoff:∀ j,j < k->(ks.set k ⟨nm,lo,nx,some ⟨g,0,none⟩,rs.length,rs,some ⟨h,0,none⟩,hs.length,hs⟩)[j]?=ks[j]?:=fun j hj=>List.getElem?_set_ne (by omega)
 have hm:∀ r,Mine w B r->Mine (((((w.setCell ⟨x,k*5,none⟩ (.string nm)).setCell ⟨x,k*5+1,none⟩ (.int .i64 lo)).setCell ⟨x,k*5+2,none⟩ (.int .i64 nx)).setCell ⟨x,k*5+3,none⟩ (.slice (some ⟨g,0,none⟩) rs.length rs.length)).setCell ⟨x,k*5+4,none⟩ (.slice (some ⟨h,0,none⟩) hs.length hs.length)) B r:=fun r m=>(((((m.set hx _).set hx _).set hx _).set hx _).set hx _)
 refine ⟨by rw [List.length_set]; exact hlen,?_,fun j r hj hr=>?_,fun j r s hj hr hs=>?_,fun i j r s hij hj hr hs b b' hb hb'=>?_⟩
 ·have:=Own.set c_len (own_change so.own (by rw [List.length_set]) hoff) hget
  exact this
 ·rcases Nat.lt_or_ge j k with h3 | h3
  ·rw [hoff j h3] at hr
   exact hm r (so.mine j r h3 hr)
  ·obtain rfl:j=k:=by omega
   rw [hget] at hr
   cases hr
   exact hm _ ⟨g,h,rfl,rfl,hg,hh,hgh,h1,h2,Nat.le_refl _,Nat.le_refl _⟩
 ·rcases Nat.lt_or_ge j k with h3 | h3
  ·rw [hoff j h3] at hr
   exact so.same j r s h3 hr hs
  ·obtain rfl:j=k:=by omega
   rw [hget] at hr
   rw [hk] at hs
   cases hr
   cases hs
   exact ⟨rfl,rfl,rfl,rfl,rfl⟩
 ·rw [hoff i (by omega)] at hr
  rcases Nat.lt_or_ge j k with h3 | h3
  ·rw [hoff j h3] at hs
   exact so.ord i j r s hij h3 hr hs b b' hb hb'
  ·obtain rfl:j=k:=by omega
   rw [hget] at hs
   cases hs
   have h4:=hlo i r hij hr b hb
   rcases hb' with ⟨o,e⟩ | ⟨o,e⟩
   ·cases e; exact h4.1
   ·cases e; exact h4.2
theorem So.below {w w':World} {B g k:Nat} {l ks:List E} (so:So w B g l ks k) (hb:Below w.heap.size w w'):So w' B g l ks k:=⟨so.len,so.own.below hb so.own.lt,fun j r hj hr=>(so.mine j r hj hr).below hb,so.same,so.ord⟩
theorem So.set {w:World} {B g k:Nat} {l ks:List E} (so:So w B g l ks k) {x o:Nat} (hx:x < B) (hg:g ≠ x) (v:Value):So (w.setCell ⟨x,o,none⟩ v) B g l ks k:=⟨so.len,so.own.kept (Below.heap_setCell _ _ _ _ (by show g ≠ x; exact hg)),fun j r hj hr=>(so.mine j r hj hr).set hx v,so.same,so.ord⟩
theorem Mine.mono {w:World} {B B':Nat} {r:E} (m:Mine w B r) (h:B' <= B):Mine w B' r:=by
 obtain ⟨g,h',h1,h2,h3,h4,h5⟩:=m
 exact ⟨g,h',h1,h2,by omega,by omega,h5⟩
theorem So.mono {w:World} {B B' g k:Nat} {l ks:List E} (so:So w B g l ks k) (h:B' <= B):So w B' g l ks k:=⟨so.len,so.own,fun j r hj hr=>(so.mine j r hj hr).mono h,so.same,so.ord⟩
theorem So.v {w:World} {B g:Nat} {l ks:List E} (so:So w B g l ks l.length):V w w.heap.size (some ⟨g,0,none⟩) ks:=by
 have h:=so.own
 rw [<- so.len] at h
 refine ⟨h.row,fun r hr=>?_⟩
 obtain ⟨j,hj⟩:=List.mem_iff_getElem?.1 hr
 exact (so.mine j r (by have:=(List.getElem?_eq_some_iff.1 hj).1; have:=so.len; omega) hj).rows
theorem info:(Tryz.prog.info? 54).map (fun i=>(i.zero,i.size,i.bytes))=some (some (.agg #[.string ByteArray.empty,.int .i64 0,.int .i64 0,.slice none 0 0,.slice none 0 0]),5,80):=by kernel_rfl
theorem to_all (l:List E) (a:Option Addr) (cap:Nat) (w:World) (hl:l.length <= 1048576) (hx:∀ e ∈ l,e.rs.length <= 1048576/\e.hs.length <= 1048576) (hS:V w w.heap.size a l) :
  Calls Tryz.prog 20 #[.slice a l.length cap] w fun e w'=>∃ ks:List E,e=.returned (.slice (some ⟨w.heap.size,0,none⟩) l.length l.length)/\So w' (w.heap.size+1) w.heap.size l ks l.length/\Below w.heap.size w w':=by
 obtain ⟨i0,hi,hz0,hz1,hz2⟩:∃ i0,Tryz.prog.info? 54=some i0/\i0.zero=some (.agg #[.string ByteArray.empty,.int .i64 0,.int .i64 0,.slice none 0 0,.slice none 0 0])/\i0.size=5/\i0.bytes=80:=by
  have h:=info
  cases hh:Tryz.prog.info? 54 with
  | none=>rw [hh] at h; cases h
  | some i=>rw [hh] at h; simp at h; exact ⟨i,rfl,h.1,h.2.1,h.2.2⟩
 have hmk:=run_makeSlice (P:=Tryz.prog) w 36 54 i0 _ Tryz.underlying36 hi hz0 .i64 .i64 (l.length:Int) (l.length:Int) (by omega) (Int.le_refl _) (by rw [hz1]; simp; omega) (by rw [hz2]; omega) (by omega)
 rw [hz1,show ((l.length:Int)).toNat=l.length by omega] at hmk
 have hmk2:(Instr.makeSlice 36 (.int .i64 (l.length:Int)) (.int .i64 (l.length:Int))).run Tryz.prog w=.ok (.slice (some ⟨w.heap.size,0,none⟩) l.length l.length) (w.alloc (.cells (madeCells #[.string ByteArray.empty,.int .i64 0,.int .i64 0,.slice none 0 0,.slice none 0 0] (l.length*5)) 54)):=hmk
 have hf0:Own c 5 54 (w.alloc (.cells (madeCells #[.string ByteArray.empty,.int .i64 0,.int .i64 0,.slice none 0 0,.slice none 0 0] (l.length*5)) 54)) w.heap.size l 0:=made #[.string ByteArray.empty,.int .i64 0,.int .i64 0,.slice none 0 0,.slice none 0 0].toList w l rfl
 have hb0:=fl.bl w (.cells (madeCells #[.string ByteArray.empty,.int .i64 0,.int .i64 0,.slice none 0 0,.slice none 0 0] (l.length*5)) 54)
 obtain ⟨W,hW⟩:∃ W,w.alloc (.cells (madeCells #[.string ByteArray.empty,.int .i64 0,.int .i64 0,.slice none 0 0,.slice none 0 0] (l.length*5)) 54)=W:=⟨_,rfl⟩
 rw [hW] at hmk2 hf0 hb0
 have HF0:Hid (So W (w.heap.size+1) w.heap.size l l 0):=⟨rfl,hf0,fun j r hj=>by omega,fun j r s hj=>by omega,fun i j r s hij hj=>by omega⟩
 have HVR:Hid (∀ r ∈ l,Row flY.c 3 w w.heap.size r.ra r.rs/\Row flK.c 2 w w.heap.size r.ha r.hs):=hS.2
 clear hmk hW hf0
 rcases hS.1 with rfl | ⟨b,off,rfl,hlt,hc⟩
 ·have hmk3:(Instr.makeSlice 36 (.int .i64 0) (.int .i64 0)).run Tryz.prog w=.ok (.slice (some ⟨w.heap.size,0,none⟩) 0 0) W:=by simpa using hmk2
  clear hmk2
  go_enter Tryz.func20,Tryz.ntmps20
  go_wp2
  refine wp_loop_rounds 1 ?_
  rw [rounds_succ]
  go_wp2
  go_ret
  exact ⟨[],rfl,HF0.out,hb0⟩
 ·have HC:Hid (∀ (i:Nat) (e:E),l[i]?=some e->∀ (j:Nat) (v:Value),(c e)[j]?=some v->w.cell? ⟨b,off+i*5+j,none⟩=some v):=hc
  have HX:Hid (∀ e ∈ l,e.rs.length <= 1048576/\e.hs.length <= 1048576):=hx
  clear hc hx hS
  go_enter Tryz.func20,Tryz.ntmps20
  go_wp2
  go_loopw [4] (fun x wr=>∃ (k:Nat) (ks:List E),k <= l.length/\x=.int .i64 k/\Below w.heap.size w wr/\Hid (So wr (w.heap.size+1) w.heap.size l ks k)) (fun x _=>l.length - (intOf x).toNat)
  case atStart=>exact ⟨0,l,Nat.zero_le _,rfl,hb0,HF0⟩
  case round =>
   obtain ⟨k,ks,hk,rfl,hbel,hf⟩:=hrel
   have hbs:=hbel.size
   by_cases hkl:k < l.length
   ·have HG:Hid (l[k]?=some l[k]):=List.getElem?_eq_getElem hkl
    have hxs:=HX.out l[k] (List.getElem_mem hkl)
    have hrow:=HVR.out l[k] (List.getElem_mem hkl)
    obtain ⟨⟨nm,lo,nx,ra,rc,rs,ha,hc,hs⟩,he⟩:∃ e,l[k]=e:=⟨_,rfl⟩
    rw [he] at HG hxs hrow
    have c0:wr.cell? ⟨b,off+k*5,none⟩=some (.string nm):=(hbel.cell (p:=⟨b,off+k*5,none⟩) hlt).trans (by have:=HC.out k _ HG.out 0 _ rfl; simpa using this)
    have c1:wr.cell? ⟨b,off+k*5+1,none⟩=some (.int .i64 lo):=(hbel.cell (p:=⟨b,off+k*5+1,none⟩) hlt).trans (by have:=HC.out k _ HG.out 1 _ rfl; simpa using this)
    have c2:wr.cell? ⟨b,off+k*5+2,none⟩=some (.int .i64 nx):=(hbel.cell (p:=⟨b,off+k*5+2,none⟩) hlt).trans (by have:=HC.out k _ HG.out 2 _ rfl; simpa using this)
    have c3:wr.cell? ⟨b,off+k*5+3,none⟩=some (.slice ra rs.length rc):=(hbel.cell (p:=⟨b,off+k*5+3,none⟩) hlt).trans (by have:=HC.out k _ HG.out 3 _ rfl; simpa using this)
    have c4:wr.cell? ⟨b,off+k*5+4,none⟩=some (.slice ha hs.length hc):=(hbel.cell (p:=⟨b,off+k*5+4,none⟩) hlt).trans (by have:=HC.out k _ HG.out 4 _ rfl; simpa using this)
    have hone:=sl.to_stream nm lo nx rs hs ra ha rc hc wr hxs.1 hxs.2 ((hrow.1).inn hbel) ((hrow.2).inn hbel)
    have hgl:w.heap.size < wr.heap.size:=hf.out.own.lt
    clear he hrow hxs
    go_wp2_with (go_at_call 50; fail)
    refine hone.mono ?_
    rintro e w1 ⟨g,h,rfl,hgW,hhW,hgh,hg,hh,hb1⟩
    have hs1:=hb1.size
    have hso:=hf.out.below hb1
    have hf1:=hso.own
    have hkl2:=hso.len
    have HN:Hid (So (((((w1.setCell ⟨w.heap.size,k*5,none⟩ (.string nm)).setCell ⟨w.heap.size,k*5+1,none⟩ (.int .i64 lo)).setCell ⟨w.heap.size,k*5+2,none⟩ (.int .i64 nx)).setCell ⟨w.heap.size,k*5+3,none⟩ (.slice (some ⟨g,0,none⟩) rs.length rs.length)).setCell ⟨w.heap.size,k*5+4,none⟩ (.slice (some ⟨h,0,none⟩) hs.length hs.length)) (w.heap.size+1) w.heap.size l (ks.set k ⟨nm,lo,nx,some ⟨g,0,none⟩,rs.length,rs,some ⟨h,0,none⟩,hs.length,hs⟩) (k+1)):=hso.more (fun j r hj hr b hb=>by have:=(hf.out.mine j r hj hr).lt hb; omega) (by omega) HG.out (by omega) (by omega) hgh hg hh
    obtain ⟨v0,g0⟩:=hf1.at (k*5) (by rw [hkl2]; omega)
    have z0:=hf1.free (k*5)
    obtain ⟨v1,g1⟩:=hf1.at (k*5+1) (by rw [hkl2]; omega)
    have z1:=hf1.free (k*5+1)
    obtain ⟨v2,g2⟩:=hf1.at (k*5+2) (by rw [hkl2]; omega)
    have z2:=hf1.free (k*5+2)
    obtain ⟨v3,g3⟩:=hf1.at (k*5+3) (by rw [hkl2]; omega)
    have z3:=hf1.free (k*5+3)
    obtain ⟨v4,g4⟩:=hf1.at (k*5+4) (by rw [hkl2]; omega)
    have z4:=hf1.free (k*5+4)
    clear hone hso hf1 c0 c1 c2 c3 c4 hg hh hkl2
    go_wp2
    go_roundw
    case rel=>exact ⟨k+1,_,by omega,by go_num,((((((hbel.trans (hb1.mono hbs)).setCell (Nat.le_refl _) _).setCell (Nat.le_refl _) _).setCell (Nat.le_refl _) _).setCell (Nat.le_refl _) _).setCell (Nat.le_refl _) _),HN⟩
    case measure=>simp [intOf]; omega
   ·obtain rfl:k=l.length:=by omega
    go_wp2
    go_ret
    first | exact ⟨ks,rfl,hf.out,hbel⟩ | exact ⟨rfl,ks,hf.out,hbel⟩
end Go.Proofs.YtaoefccgdfcchaaGreat.su
