/- CqKit. -/
import Derived.Test.YtaoefccgdfcchaaGreatKq27
import Derived.Test.YtaoefccgdfcchaaGreatKq30
import Derived.Test.YtaoefccgdfcchaaGreatKq26
set_option maxRecDepth 100000
set_option maxHeartbeats 8000000
set_option linter.unusedVariables false
namespace Go.Proofs.YtaoefccgdfcchaaGreat.cqk
open ChangeShapes WideShapes ChangeAt RowKit rr ra rt fl co scc
theorem mine_lo {α:Type} {c:α->List Value} {n:Nat} {U:TypeId} {W:World} {B B':Nat} {a:Option Addr} {l:List α} (h:fo.Mine c n U W B a l) (hB:B' <= B):fo.Mine c n U W B' a l:=by
 rcases h with h | ⟨g,o,h1,h2,h3⟩
 ·exact .inl h
 ·exact .inr ⟨g,o,h1,by omega,h3⟩
theorem own_lo {B B' n m:Nat} {T:TypeId} {v:Value} {xs:List Value} {W:World} (h:W.ownsRow B T n v m xs) (hB:B' <= B):W.ownsRow B' T n v m xs:=by
 obtain ⟨h1,h2⟩:=h
 refine ⟨h1,h2.imp id ?_⟩
 rintro ⟨g,cap,cur,e,k2,k3⟩
 exact ⟨g,cap,cur,e,by omega,k3⟩
theorem owns_ownO {α:Type} {c:α->List Value} {n B g cap:Nat} {U:TypeId} {l:List α} {w:World} (hn:∀ e,(c e).length=n) (ho:w.ownsRow B U n (.slice (some ⟨g,0,none⟩) l.length cap) l.length (l.flatMap c)):fo.OwnO c n U w g 0 l l.length/\B <= g:=by
 obtain ⟨_,⟨h1,_⟩ | ⟨g',cap',cur,h1,h2,h3,h4,h5,h6,h7⟩⟩:=ho
 ·cases h1
 cases h1
 refine ⟨⟨cur,h3,by rw [h6,Nat.zero_add]; exact Nat.mul_le_mul_right n h4,fun i e hi he j v hv=>?_⟩,h2⟩
 have hf:=flat_at hn l i e he j v hv
 rw [<- h7] at hf
 have hlt:=(List.getElem?_eq_some_iff.1 hf).1
 rw [List.length_take] at hlt
 rw [List.getElem?_take_of_lt (by omega)] at hf
 rw [Nat.zero_add,<- Array.getElem?_toList]
 exact hf
theorem own_mine {α:Type} {c:α->List Value} {n B B' cap m:Nat} {a:Option Addr} {U:TypeId} {l:List α} {w:World} (hn:∀ e,(c e).length=n) (ho:w.ownsRow B U n (.slice a m cap) l.length (l.flatMap c)) (hB:B' <= B):fo.Mine c n U w B' a l:=by
 obtain ⟨h0,⟨h1,h2⟩ | ⟨g',cap',cur,h1,h2⟩⟩:=id ho
 ·exact .inl (List.eq_nil_of_length_eq_zero h2)
 ·obtain ⟨rfl,hm,rfl⟩:=Value.slice.inj h1
  subst hm
  obtain ⟨h3,h4⟩:=owns_ownO hn ho
  exact .inr ⟨g',0,rfl,by omega,h3⟩
theorem own_owns {α:Type} {c:α->List Value} {n B g:Nat} {U:TypeId} {l:List α} {w:World} (hn:∀ e,(c e).length=n) (ho:Own c n U w g l l.length) (hB:B <= g) (hl:l.length <= maxLen):w.ownsRow B U n (.slice (some ⟨g,0,none⟩) l.length l.length) l.length (l.flatMap c):=by
 obtain ⟨cur,h1,h2,h3⟩:=ho
 refine ⟨flat_len hn l,.inr ⟨g,l.length,cur,rfl,hB,h1,Nat.le_refl _,hl,h2,?_⟩⟩
 apply List.ext_getElem?
 intro j
 by_cases hj:j < l.length*n
 ·have hn0:0 < n:=Nat.pos_of_ne_zero (fun e=>by subst e; simp at hj)
  have hi:j / n < l.length:=Nat.div_lt_of_lt_mul (by rw [Nat.mul_comm]; exact hj)
  have hjm:j % n < n:=Nat.mod_lt _ hn0
  have he:l[j / n]?=some l[j / n]:=List.getElem?_eq_getElem hi
  have hv:(c l[j / n])[j % n]?=some ((c l[j / n])[j % n]'(by rw [hn]; exact hjm)):=List.getElem?_eq_getElem _
  have k1:=h3 (j / n) _ hi he (j % n) _ hv
  have k2:=flat_at hn l (j / n) _ he (j % n) _ hv
  have e:j / n*n+j % n=j:=by rw [Nat.mul_comm]; exact Nat.div_add_mod j n
  rw [e] at k1 k2
  rw [List.getElem?_take_of_lt hj,k2,Array.getElem?_toList]
  exact k1
 ·rw [List.getElem?_eq_none (by rw [List.length_take]; omega),List.getElem?_eq_none (by rw [flat_len hn]; omega)]
theorem ne_blk {W:World} {T T':TypeId} {g b:Nat} (hT:T ≠ T') (h1:∃ cur,W.heap[g]?=some (.cells cur T (0,0))) (h2:∃ cur,W.heap[b]?=some (.cells cur T' (0,0))):b ≠ g:=fun e=>by
 subst e
 exact rmk.ne_type hT h1 h2
theorem mine_keep {W W':World} {α:Type} {c:α->List Value} {n B g:Nat} {T T':TypeId} {a:Option Addr} {l:List α} (hT:T ≠ T') (ht:fo.Tn W W' (fun k=>k=g)) (hg:∃ cur,W.heap[g]?=some (.cells cur T (0,0))) (h:fo.Mine c n T' W B a l):fo.Mine c n T' W' B a l:=h.kept ht (fun k hk e=>by subst e; exact rmk.ne_type hT hg (rmk.mine_type h hk))
theorem owns_keep {W W':World} {B n m g:Nat} {T T':TypeId} {v:Value} {xs:List Value} (hT:T ≠ T') (ht:fo.Tn W W' (fun k=>k=g)) (hg:∃ cur,W.heap[g]?=some (.cells cur T (0,0))) (h:W.ownsRow B T' n v m xs):W'.ownsRow B T' n v m xs:=by
 obtain ⟨cur,hc⟩:=hg
 exact h.kept (row:=some g) ⟨ht.os,ht.tape,ht.output,ht.size,fun k hk hne=>ht.block k hk (fun e=>hne (by rw [e]))⟩ (.inr (su.apart h hc (Ne.symm hT)))
def Ok (W:World) (n:ByteArray) (r:su.E):Prop:=cb.At W r ∨ r=cqp.newT n
theorem Ok.on {W W':World} {n:ByteArray} {r:su.E} (h:Ok W n r) (hb:Below W.heap.size W W'):Ok W' n r:=h.imp (fun h=>h.below hb) id
theorem at_of {W:World} {B B':Nat} {r:su.E} {g h:Nat} (h1:r.ra=some ⟨g,0,none⟩) (h2:r.ha=some ⟨h,0,none⟩) (o1:W.ownsRow B 134 3 (.slice (some ⟨g,0,none⟩) r.rs.length r.rc) r.rs.length (r.rs.flatMap flY.c)) (o2:W.ownsRow B' 136 2 (.slice (some ⟨h,0,none⟩) r.hs.length r.hc) r.hs.length (r.hs.flatMap flK.c)):cb.At W r:=by
 obtain ⟨k1,_⟩:=owns_ownO flY.c_len o1
 obtain ⟨k2,_⟩:=owns_ownO flK.c_len o2
 refine ⟨g,h,h1,h2,⟨k1.lt,fun i e he=>?_⟩,⟨k2.lt,fun i e he=>?_⟩⟩
 ·obtain ⟨cur,hg,hs,hc⟩:=k1
  have hi:=(List.getElem?_eq_some_iff.1 he).1
  refine ⟨bcell hg ?_,bcell hg ?_,bcell hg ?_⟩
  ·have:=hc i e hi he 0 _ rfl; simpa using this
  ·have:=hc i e hi he 1 _ rfl; simpa using this
  ·have:=hc i e hi he 2 _ rfl; simpa using this
 ·obtain ⟨cur,hg,hs,hc⟩:=k2
  have hi:=(List.getElem?_eq_some_iff.1 he).1
  refine ⟨bcell hg ?_,bcell hg ?_⟩
  ·have:=hc i e hi he 0 _ rfl; simpa using this
  ·have:=hc i e hi he 1 _ rfl; simpa using this
theorem reE {W:World} {es:List Ex} {B c' g:Nat} (h:W.ownsRow B 137 2 (.slice (some ⟨g,0,none⟩) es.length c') es.length (es.flatMap Go.Proofs.YtaoefccgdfcchaaGreat.su.cE)):RE W g es:=by
 obtain ⟨k,_⟩:=owns_ownO Go.Proofs.YtaoefccgdfcchaaGreat.su.cE_len h
 refine ⟨k.lt,fun i e he=>?_⟩
 obtain ⟨cur,hg,hs,hc⟩:=k
 have hi:=(List.getElem?_eq_some_iff.1 he).1
 refine ⟨bcell hg ?_,bcell hg ?_⟩
 ·have:=hc i e hi he 0 _ rfl; simpa using this
 ·have:=hc i e hi he 1 _ rfl; simpa using this
theorem rbB {W:World} {bs:List Bi} {B c' g:Nat} (h:W.ownsRow B 138 3 (.slice (some ⟨g,0,none⟩) bs.length c') bs.length (bs.flatMap Go.Proofs.YtaoefccgdfcchaaGreat.su.cB)):RB W g bs:=by
 obtain ⟨k,_⟩:=owns_ownO Go.Proofs.YtaoefccgdfcchaaGreat.su.cB_len h
 refine ⟨k.lt,fun i e he=>?_⟩
 obtain ⟨cur,hg,hs,hc⟩:=k
 have hi:=(List.getElem?_eq_some_iff.1 he).1
 refine ⟨bcell hg ?_,bcell hg ?_,bcell hg ?_⟩
 ·have:=hc i e hi he 0 _ rfl; simpa using this
 ·have:=hc i e hi he 1 _ rfl; simpa using this
 ·have:=hc i e hi he 2 _ rfl; simpa using this
theorem feT {W:World} {g k:Nat} {l:List Ex} (h:FE W g l k):∃ cur,W.heap[g]?=some (.cells cur 137 (0,0)):=by
 obtain ⟨cur,h1,_⟩:=h
 exact ⟨cur,h1⟩
theorem fbT {W:World} {g k:Nat} {l:List Bi} (h:FB W g l k):∃ cur,W.heap[g]?=some (.cells cur 138 (0,0)):=by
 obtain ⟨cur,h1,_⟩:=h
 exact ⟨cur,h1⟩
theorem ok_set {W W':World} {g B:Nat} {T:TypeId} {r:su.E} (m:fo.Mine flY.c 3 134 W B r.ra r.rs/\fo.Mine flK.c 2 136 W B r.ha r.hs) (hg:∃ cur,W.heap[g]?=some (.cells cur T (0,0))) (h:cb.At W r) (ht:fo.Tn W W' (fun k=>k=g)) (hT:T ≠ 134/\T ≠ 136:=by decide):cb.At W' r:=by
 obtain ⟨a,b,h1,h2,h3,h4⟩:=h
 have sz:=ht.size
 refine ⟨a,b,h1,h2,⟨by have:=h3.1; omega,fun i e he=>?_⟩,⟨by have:=h4.1; omega,fun i e he=>?_⟩⟩
 ·have hne:r.rs ≠ []:=fun h=>by rw [h] at he; simp at he
  have k1:=ht.block a h3.1 (ne_blk hT.1 hg (rmk.mine_type m.1 ⟨hne,a,0,h1,rfl⟩))
  obtain ⟨x,y,z⟩:=h3.2 i e he
  simp only [World.cell?,k1] at x y z ⊢
  exact ⟨x,y,z⟩
 ·have hne:r.hs ≠ []:=fun h=>by rw [h] at he; simp at he
  have k1:=ht.block b h4.1 (ne_blk hT.2 hg (rmk.mine_type m.2 ⟨hne,b,0,h2,rfl⟩))
  obtain ⟨x,y⟩:=h4.2 i e he
  simp only [World.cell?,k1] at x y ⊢
  exact ⟨x,y⟩
theorem fit_q {es:List Ex} {bs:List Bi} {qs:List qu.E} {ts:List su.E} {n:ByteArray} {p:Nat} (F:cb.Fit es bs qs ts) (hl:qs.length <= 20) (hn:n.size <= 1048576) (hp:p <= qs.length):cb.Fit es bs (qs.take p++cqp.newQ n :: qs.drop p) ts:=⟨F.el,F.bl,by rw [cqp.ins_len _ _ _ hp]; omega,F.tl,F.eb,F.bb,fun e he=>by
 rcases cqp.ins_mem he with rfl | he
 ·exact ⟨hn,by simp [cqp.newQ],by simp [cqp.newQ],fun m hm=>by simp [cqp.newQ] at hm,fun m hm=>by simp [cqp.newQ] at hm⟩
 ·exact F.qf e he,F.tf⟩
theorem fit_t {es:List Ex} {bs:List Bi} {qs:List qu.E} {ts:List su.E} {n:ByteArray} {p:Nat} (F:cb.Fit es bs qs ts) (hl:ts.length <= 20) (hn:n.size <= 1048576) (hp:p <= ts.length):cb.Fit es bs qs (ts.take p++cqp.newT n :: ts.drop p):=⟨F.el,F.bl,F.ql,by rw [cqp.ins_len _ _ _ hp]; omega,F.eb,F.bb,F.qf,fun e he=>by
 rcases cqp.ins_mem he with rfl | he
 ·exact ⟨hn,by simp [cqp.newT],by simp [cqp.newT],fun m hm=>by simp [cqp.newT] at hm,fun m hm=>by simp [cqp.newT] at hm⟩
 ·exact F.tf e he⟩
theorem kt_spec {es:List Ex} {bs:List Bi} {qs:List qu.E} {ts:List su.E} {w:World} {n:ByteArray} (F:cb.Fit es bs qs ts) (hn:n.size <= 1048576) (hV:∀ r ∈ ts,Ok w n r):∀ r ∈ ts,∀ V,Below w.heap.size w V->Calls Tryz.prog 45 #[.agg #[.string r.nm,.int .i64 r.lo,.int .i64 r.nx,.slice r.ra r.rs.length r.rc,.slice r.ha r.hs.length r.hc]] V fun e w'=>e=.returned (.bool (st.okB r.nm r.lo r.nx r.rs r.hs))/\Below V.heap.size V w':=fun r hr V hb=>by
 rcases (hV r hr).on hb with h | rfl
 ·obtain ⟨g,h,h1,h2,h3,h4⟩:=h
  rw [h1,h2]
  exact sts.spec_ok r.nm r.lo r.nx r.rs r.hs g h r.rc r.hc V (F.tf r hr) h3 h4
 ·exact sno.spec_nil n V hn
theorem kt_impl {es:List Ex} {bs:List Bi} {qs:List qu.E} {ts:List su.E} {w:World} {n:ByteArray} (F:cb.Fit es bs qs ts) (hn:n.size <= 1048576) (hV:∀ r ∈ ts,Ok w n r):∀ r ∈ ts,∀ V,Below w.heap.size w V->Calls Tryz.prog 60 #[.agg #[.string r.nm,.int .i64 r.lo,.int .i64 r.nx,.slice r.ra r.rs.length r.rc,.slice r.ha r.hs.length r.hc]] V fun e w'=>e=.returned (.bool (st.okB r.nm r.lo r.nx r.rs r.hs))/\Below V.heap.size V w':=fun r hr V hb=>by
 rcases (hV r hr).on hb with h | rfl
 ·obtain ⟨g,h,h1,h2,h3,h4⟩:=h
  rw [h1,h2]
  exact sti.impl_ok r.nm r.lo r.nx r.rs r.hs g h r.rc r.hc V (F.tf r hr) h3 h4
 ·exact sno.impl_nil n V hn
theorem qrow {W:World} {g:Nat} {l:List qu.E} (h:qu.R W g l):Row qu.c 4 W W.heap.size (some ⟨g,0,none⟩) l:=.inr ⟨g,0,rfl,h.1,fun i e he j v hv=>by
 obtain ⟨a0,a1,a2,a3⟩:=h.2 i e he
 match j,hv with
 | 0,hv=>cases hv; simpa using a0
 | 1,hv=>cases hv; simpa using a1
 | 2,hv=>cases hv; simpa using a2
 | 3,hv=>cases hv; simpa using a3⟩
theorem trow {W:World} {g:Nat} {l:List su.E} (h:su.R W g l):Row su.c 5 W W.heap.size (some ⟨g,0,none⟩) l:=.inr ⟨g,0,rfl,h.1,fun i e he j v hv=>by
 obtain ⟨a0,a1,a2,a3,a4⟩:=h.2 i e he
 match j,hv with
 | 0,hv=>cases hv; simpa using a0
 | 1,hv=>cases hv; simpa using a1
 | 2,hv=>cases hv; simpa using a2
 | 3,hv=>cases hv; simpa using a3
 | 4,hv=>cases hv; simpa using a4⟩
structure Kq (w:World) (es:List Ex) (bs:List Bi) (qs:List qu.E) (ts:List su.E) (n:ByteArray) (a0 b0 q0 t0 ec bc qc tc:Nat) (g1 c1 h1 c2 gn S0:Nat) (x y:Value) (l:List qu.E) (us:List su.E) (W:World):Prop where
 bel:Below w.heap.size w W
 box:W.heap[w.heap.size]?=some (.cells #[.slice (some ⟨a0,0,none⟩) es.length ec,.slice (some ⟨b0,0,none⟩) bs.length bc,.slice (some ⟨q0,0,none⟩) qs.length qc,.slice (some ⟨t0,0,none⟩) ts.length tc] 38 (0,0))
 res:W.heap[w.heap.size+1]?=some (.cells #[.slice none 0 0,.slice none 0 0,.slice none 0 0,.slice none 0 0] 38 (0,0))
 gnb:W.heap[gn]?=some (.cells #[.slice (some ⟨g1,0,none⟩) es.length c1,.slice (some ⟨h1,0,none⟩) bs.length c2,x,y] 38 (0,0))
 o1:W.ownsRow (w.heap.size+2) 137 2 (.slice (some ⟨g1,0,none⟩) es.length c1) es.length (es.flatMap Go.Proofs.YtaoefccgdfcchaaGreat.su.cE)
 o2:W.ownsRow (w.heap.size+2) 138 3 (.slice (some ⟨h1,0,none⟩) bs.length c2) bs.length (bs.flatMap Go.Proofs.YtaoefccgdfcchaaGreat.su.cB)
 qo:W.ownsRow S0 58 4 x l.length (l.flatMap qu.c)
 so:W.ownsRow S0 54 5 y us.length (us.flatMap su.c)
 qe:∀ r ∈ l,fo.Mine flM.c 5 129 W S0 r.ra r.rs/\fo.Mine flH.c 7 131 W S0 r.ha r.hs
 se:∀ r ∈ us,fo.Mine flY.c 3 134 W S0 r.ra r.rs/\fo.Mine flK.c 2 136 W S0 r.ha r.hs
 at_:∀ r ∈ us,Ok W n r
 hs:w.heap.size+2 <= S0
 gl:w.heap.size+2 <= gn
section
variable {w:World} {es:List Ex} {bs:List Bi} {qs:List qu.E} {ts:List su.E} {n:ByteArray} {a0 b0 q0 t0 ec bc qc tc:Nat} {g1 c1 h1 c2 gn S0:Nat} {x y:Value} {l:List qu.E} {us:List su.E} {W W':World}
theorem Kq.on (h:Kq w es bs qs ts n a0 b0 q0 t0 ec bc qc tc g1 c1 h1 c2 gn S0 x y l us W) (hb:Below W.heap.size W W'):Kq w es bs qs ts n a0 b0 q0 t0 ec bc qc tc g1 c1 h1 c2 gn S0 x y l us W' :=
 ⟨h.bel.trans (hb.mono h.bel.size),bstay h.box hb (Array.getElem?_eq_some_iff.1 h.box).1,bstay h.res hb (Array.getElem?_eq_some_iff.1 h.res).1,bstay h.gnb hb (Array.getElem?_eq_some_iff.1 h.gnb).1,su.own_stays h.o1 hb,su.own_stays h.o2 hb,su.own_stays h.qo hb,su.own_stays h.so hb,fun r hr=>⟨(h.qe r hr).1.below hb,(h.qe r hr).2.below hb⟩,fun r hr=>⟨(h.se r hr).1.below hb,(h.se r hr).2.below hb⟩,fun r hr=>(h.at_ r hr).on hb,h.hs,h.gl⟩
theorem kq_of {W w1 Y:World} (h:Ke W es bs g1 c1 h1 c2 S0 x y l us w1) (hW:Below w.heap.size w W) (hS:w.heap.size+2 <= W.heap.size) (hA:W.heap[w.heap.size]?=some (.cells #[.slice (some ⟨a0,0,none⟩) es.length ec,.slice (some ⟨b0,0,none⟩) bs.length bc,.slice (some ⟨q0,0,none⟩) qs.length qc,.slice (some ⟨t0,0,none⟩) ts.length tc] 38 (0,0))) (hR:W.heap[w.heap.size+1]?=some (.cells #[.slice none 0 0,.slice none 0 0,.slice none 0 0,.slice none 0 0] 38 (0,0))) (hY:Below w1.heap.size w1 Y) (hN:Y.heap[w1.heap.size]?=some (.cells #[.slice (some ⟨g1,0,none⟩) es.length c1,.slice (some ⟨h1,0,none⟩) bs.length c2,x,y] 38 (0,0))):Kq w es bs qs ts n a0 b0 q0 t0 ec bc qc tc g1 c1 h1 c2 w1.heap.size (w.heap.size+2) x y l us Y:=by
 have hs:=h.bel.size
 have hb:Below W.heap.size W Y:=h.bel.trans (hY.mono hs)
 have hh:=h.hs
 refine ⟨hW.trans (hb.mono hW.size),bstay hA hb (by omega),bstay hR hb (by omega),hN,own_lo (su.own_stays h.o1 hY) (by omega),own_lo (su.own_stays h.o2 hY) (by omega),own_lo (su.own_stays h.qo hY) (by omega),own_lo (su.own_stays h.so hY) (by omega),fun r hr=>?_,fun r hr=>?_,fun r hr=>?_,by omega,by omega⟩
 ·obtain ⟨g,x,e1,e2,o1,o2⟩:=h.qe r hr
  rw [e1,e2]
  exact ⟨(own_mine flM.c_len o1 (by omega)).below hY,(own_mine flH.c_len o2 (by omega)).below hY⟩
 ·obtain ⟨g,x,e1,e2,o1,o2⟩:=h.se r hr
  rw [e1,e2]
  exact ⟨(own_mine flY.c_len o1 (by omega)).below hY,(own_mine flK.c_len o2 (by omega)).below hY⟩
 ·obtain ⟨g,x,e1,e2,o1,o2⟩:=h.se r hr
  exact .inl ((at_of e1 e2 o1 o2).below hY)
theorem ke_sa {W w1:World} {qa ta:Option Addr} {nq nt qk tk:Nat} {Q:List qu.E} {U:List su.E} (h:Ke W es bs g1 c1 h1 c2 S0 (.slice qa nq qk) (.slice ta nt tk) l us w1) (hs:cb.Same Q l U us):cn.SA W w1 es bs Q U (some ⟨g1,0,none⟩) (some ⟨h1,0,none⟩) qa ta l us:=by
 have hh:=h.hs
 refine ⟨own_mine Go.Proofs.YtaoefccgdfcchaaGreat.su.cE_len h.o1 (by omega),own_mine Go.Proofs.YtaoefccgdfcchaaGreat.su.cB_len h.o2 (by omega),own_mine qu.c_len h.qo (by omega),fun r hr=>?_,own_mine su.c_len h.so (by omega),fun r hr=>?_,hs,h.bel⟩
 ·obtain ⟨g,x,e1,e2,o1,o2⟩:=h.qe r hr
  rw [e1,e2]
  exact ⟨own_mine flM.c_len o1 (by omega),own_mine flH.c_len o2 (by omega)⟩
 ·obtain ⟨g,x,e1,e2,o1,o2⟩:=h.se r hr
  rw [e1,e2]
  exact ⟨own_mine flY.c_len o1 (by omega),own_mine flK.c_len o2 (by omega)⟩
theorem Kq.putQ {V:World} {v:Value} {l':List qu.E} (h:Kq w es bs qs ts n a0 b0 q0 t0 ec bc qc tc g1 c1 h1 c2 gn S0 x y l us W) (hb:Below W.heap.size W V) (ho:(V.setCell ⟨gn,2,none⟩ v).ownsRow W.heap.size 58 4 v l'.length (l'.flatMap qu.c)) (hm:∀ r ∈ l',r=cqp.newQ n ∨ r ∈ l) (hS:S0 <= W.heap.size):Kq w es bs qs ts n a0 b0 q0 t0 ec bc qc tc g1 c1 h1 c2 gn S0 v y l' us (V.setCell ⟨gn,2,none⟩ v):=by
 have k:=h.on hb
 have hg:∃ cur,V.heap[gn]?=some (.cells cur 38 (0,0)):=⟨_,k.gnb⟩
 have ht:fo.Tn V (V.setCell ⟨gn,2,none⟩ v) (fun k=>k=gn):=(fo.Tn.refl V (fun k=>k=gn)).set (g:=gn) rfl _ _
 have hgl:=k.gl
 have hgs:=(Array.getElem?_eq_some_iff.1 h.gnb).1
 have hbk:∀ b o,b ≠ gn->V.heap[b]?=some o->(V.setCell ⟨gn,2,none⟩ v).heap[b]?=some o:=fun b o hne hb=>boff hb _ _ _ hne
 refine ⟨k.bel.setCell (show w.heap.size <= gn by omega) _,hbk _ _ (by omega) k.box,hbk _ _ (by omega) k.res,bset k.gnb 2 v,owns_keep (by decide) ht hg k.o1,owns_keep (by decide) ht hg k.o2,own_lo ho hS,owns_keep (by decide) ht hg k.so,fun r hr=>?_,fun r hr=>⟨mine_keep (by decide) ht hg (k.se r hr).1,mine_keep (by decide) ht hg (k.se r hr).2⟩,fun r hr=>?_,k.hs,k.gl⟩
 ·rcases hm r hr with rfl | hr
  ·exact ⟨.inl rfl,.inl rfl⟩
  ·exact ⟨mine_keep (by decide) ht hg (k.qe r hr).1,mine_keep (by decide) ht hg (k.qe r hr).2⟩
 ·refine (k.at_ r hr).imp (fun h=>?_) id
  refine ok_set (k.se r hr) hg h ht
theorem Kq.putT {V:World} {v:Value} {l':List su.E} (h:Kq w es bs qs ts n a0 b0 q0 t0 ec bc qc tc g1 c1 h1 c2 gn S0 x y l us W) (hb:Below W.heap.size W V) (ho:(V.setCell ⟨gn,3,none⟩ v).ownsRow W.heap.size 54 5 v l'.length (l'.flatMap su.c)) (hm:∀ r ∈ l',r=cqp.newT n ∨ r ∈ us) (hS:S0 <= W.heap.size):Kq w es bs qs ts n a0 b0 q0 t0 ec bc qc tc g1 c1 h1 c2 gn S0 x v l l' (V.setCell ⟨gn,3,none⟩ v):=by
 have k:=h.on hb
 have hg:∃ cur,V.heap[gn]?=some (.cells cur 38 (0,0)):=⟨_,k.gnb⟩
 have ht:fo.Tn V (V.setCell ⟨gn,3,none⟩ v) (fun k=>k=gn):=(fo.Tn.refl V (fun k=>k=gn)).set (g:=gn) rfl _ _
 have hgl:=k.gl
 have hbk:∀ b o,b ≠ gn->V.heap[b]?=some o->(V.setCell ⟨gn,3,none⟩ v).heap[b]?=some o:=fun b o hne hb=>boff hb _ _ _ hne
 refine ⟨k.bel.setCell (show w.heap.size <= gn by omega) _,hbk _ _ (by omega) k.box,hbk _ _ (by omega) k.res,bset k.gnb 3 v,owns_keep (by decide) ht hg k.o1,owns_keep (by decide) ht hg k.o2,owns_keep (by decide) ht hg k.qo,own_lo ho hS,fun r hr=>⟨mine_keep (by decide) ht hg (k.qe r hr).1,mine_keep (by decide) ht hg (k.qe r hr).2⟩,fun r hr=>?_,fun r hr=>?_,k.hs,k.gl⟩
 ·rcases hm r hr with rfl | hr
  ·exact ⟨.inl rfl,.inl rfl⟩
  ·exact ⟨mine_keep (by decide) ht hg (k.se r hr).1,mine_keep (by decide) ht hg (k.se r hr).2⟩
 ·rcases hm r hr with rfl | hr
  ·exact .inr rfl
  ·exact (k.at_ r hr).imp (fun h=>ok_set (k.se r hr) hg h ht) id
theorem Kq.fin {qa ta:Option Addr} {nq nt qk tk:Nat} {Q:List qu.E} {U:List su.E} (h:Kq w es bs qs ts n a0 b0 q0 t0 ec bc qc tc g1 c1 h1 c2 gn S0 (.slice qa nq qk) (.slice ta nt tk) l us W) (hs:cb.Same Q l U us):Hid (∀ V,fo.Tn W V (fun k=>k=w.heap.size+1)->cn.SA w V es bs Q U (some ⟨g1,0,none⟩) (some ⟨h1,0,none⟩) qa ta l us):=fun V ht=>by
 have hlo:=h.hs
 have km:∀ {α:Type} {c:α->List Value} {n B:Nat} {U:TypeId} {a:Option Addr} {l:List α},w.heap.size+2 <= B->fo.Mine c n U W B a l->fo.Mine c n U V w.heap.size a l:=fun hB m=>mine_lo (m.kept ht (fun k hk hz=>by have:=(m.blk_le hk).1; omega)) (by omega)
 exact ⟨km (Nat.le_refl _) (own_mine Go.Proofs.YtaoefccgdfcchaaGreat.su.cE_len h.o1 (Nat.le_refl _)),km (Nat.le_refl _) (own_mine Go.Proofs.YtaoefccgdfcchaaGreat.su.cB_len h.o2 (Nat.le_refl _)),km hlo (own_mine qu.c_len h.qo (Nat.le_refl _)),fun r hr=>⟨km hlo (h.qe r hr).1,km hlo (h.qe r hr).2⟩,km hlo (own_mine su.c_len h.so (Nat.le_refl _)),fun r hr=>⟨km hlo (h.se r hr).1,km hlo (h.se r hr).2⟩,hs,h.bel.trans (ht.below h.bel.size (fun k e=>by omega))⟩
theorem Kq.ok {qa ta:Option Addr} {qk tk:Nat} (h:Kq w es bs qs ts n a0 b0 q0 t0 ec bc qc tc g1 c1 h1 c2 gn S0 (.slice qa l.length qk) (.slice ta us.length tk) l us W) (F:cb.Fit es bs l us) (hn:n.size <= 1048576):Calls Tryz.prog 17 #[.agg #[.slice (some ⟨g1,0,none⟩) es.length c1,.slice (some ⟨h1,0,none⟩) bs.length c2,.slice qa l.length qk,.slice ta us.length tk]] W fun e w'=>e=.returned (.bool (okC es bs l us))/\Below W.heap.size W w' :=
 cos.spec_ok es bs l us _ _ _ _ c1 c2 qk tk W F.ql F.tl (own_mine qu.c_len h.qo (Nat.le_refl _)).row (own_mine su.c_len h.so (Nat.le_refl _)).row (cb.kq_spec F (fun r hr=>⟨(h.qe r hr).1.row,(h.qe r hr).2.row⟩)) (kt_spec F hn h.at_) (cb.kr_spec F g1 h1 c1 c2 (reE h.o1) (rbB h.o2))
end
structure Iq (w:World) (es:List Ex) (bs:List Bi) (qs:List qu.E) (ts:List su.E) (n:ByteArray) (a0 b0 q0 t0 ec bc qc tc:Nat) (ge gb gq gt gn qk tk:Nat) (l:List qu.E) (us:List su.E) (W:World):Prop where
 bel:Below w.heap.size w W
 box:W.heap[w.heap.size]?=some (.cells #[.slice (some ⟨a0,0,none⟩) es.length ec,.slice (some ⟨b0,0,none⟩) bs.length bc,.slice (some ⟨q0,0,none⟩) qs.length qc,.slice (some ⟨t0,0,none⟩) ts.length tc] 38 (0,0))
 res:W.heap[w.heap.size+1]?=some (.cells #[.slice none 0 0,.slice none 0 0,.slice none 0 0,.slice none 0 0] 38 (0,0))
 gnb:W.heap[gn]?=some (.cells #[.slice (some ⟨ge,0,none⟩) es.length es.length,.slice (some ⟨gb,0,none⟩) bs.length bs.length,.slice (some ⟨gq,0,none⟩) l.length qk,.slice (some ⟨gt,0,none⟩) us.length tk] 38 (0,0))
 ca:Ca W (w.heap.size+2) es bs l us ge gb gq gt
 at_:∀ r ∈ us,Ok W n r
 gl:w.heap.size+2 <= gn
section
variable {w:World} {es:List Ex} {bs:List Bi} {qs:List qu.E} {ts:List su.E} {n:ByteArray} {a0 b0 q0 t0 ec bc qc tc:Nat} {ge gb gq gt gn qk tk:Nat} {l:List qu.E} {us:List su.E} {W W':World}
theorem Iq.on (h:Iq w es bs qs ts n a0 b0 q0 t0 ec bc qc tc ge gb gq gt gn qk tk l us W) (hb:Below W.heap.size W W'):Iq w es bs qs ts n a0 b0 q0 t0 ec bc qc tc ge gb gq gt gn qk tk l us W' :=
 ⟨h.bel.trans (hb.mono h.bel.size),bstay h.box hb (Array.getElem?_eq_some_iff.1 h.box).1,bstay h.res hb (Array.getElem?_eq_some_iff.1 h.res).1,bstay h.gnb hb (Array.getElem?_eq_some_iff.1 h.gnb).1,h.ca.on hb,fun r hr=>(h.at_ r hr).on hb,h.gl⟩
theorem tn_of {r:Nat} (h:W.grownBy W' (some r)):fo.Tn W W' (fun k=>k=r):=⟨h.os,h.tape,h.output,h.size,fun k hk hne=>h.block k hk (fun e=>hne (Option.some.inj e))⟩
theorem ca_keep {B g:Nat} {T:TypeId} (h:Ca W B es bs l us ge gb gq gt) (ht:fo.Tn W W' (fun k=>k=g)) (hg:∃ cur,W.heap[g]?=some (.cells cur T (0,0))) (hT:T ≠ 137/\T ≠ 138/\T ≠ 58/\T ≠ 129/\T ≠ 131/\T ≠ 54/\T ≠ 134/\T ≠ 136):Ca W' B es bs l us ge gb gq gt:=by
 obtain ⟨t1,t2,t3,t4,t5,t6,t7,t8⟩:=hT
 obtain ⟨cur,hg⟩:=hg
 refine ⟨ro2.keptE h.he (ht.block ge h.he.lt (ne_blk t1 ⟨_,hg⟩ (feT h.he))),ro2.keptB h.hb (ht.block gb h.hb.lt (ne_blk t2 ⟨_,hg⟩ (fbT h.hb))),h.hq.turn ht (fun k e=>by subst e; exact ⟨cur,T,hg,t3,t4,t5⟩),h.ht.turn ht (fun k e=>by subst e; exact ⟨cur,T,hg,t6,t7,t8⟩),h.be,h.bb,h.eb⟩
theorem ca_putQ {B g2 c2 p:Nat} (h:Ca W B es bs l us ge gb gq gt) (hg:W.grownBy W' (some gq)) (hp:p <= l.length) (ho:W'.ownsRow B 58 4 (.slice (some ⟨g2,0,none⟩) (l.length+1) c2) (l.length+1) ((l.take p++cqp.newQ n :: l.drop p).flatMap qu.c)):Ca W' B es bs (l.take p++cqp.newQ n :: l.drop p) us ge gb g2 gt:=by
 have ht:=tn_of hg
 have hq:=qu.own_g h.hq.own
 rw [<- cqp.ins_len l p (cqp.newQ n) hp] at ho
 obtain ⟨k1,k2⟩:=owns_ownO qu.c_len ho
 obtain ⟨cur,hc⟩:=id hq
 refine ⟨ro2.keptE h.he (ht.block ge h.he.lt (ne_blk (by decide) hq (feT h.he))),ro2.keptB h.hb (ht.block gb h.hb.lt (ne_blk (by decide) hq (fbT h.hb))),⟨k1,k2,fun r hr=>?_,fun r hr=>?_,cqp.ins_pw h.hq.pw (fun e _=>⟨fun k _ hk=>hk.1 rfl,fun k _ hk=>hk.1 rfl⟩) (fun e _=>⟨fun k hk _=>hk.1 rfl,fun k hk _=>hk.1 rfl⟩)⟩,h.ht.turn ht (fun k e=>by subst e; exact ⟨cur,_,hc,by decide,by decide,by decide⟩),h.be,h.bb,h.eb⟩
 ·rcases cqp.ins_mem hr with rfl | hr
  ·exact .inl rfl
  ·exact mine_keep (by decide) ht hq (h.hq.ea r hr)
 ·rcases cqp.ins_mem hr with rfl | hr
  ·exact .inl rfl
  ·exact mine_keep (by decide) ht hq (h.hq.eb r hr)
theorem ca_putT {B g2 c2 p:Nat} (h:Ca W B es bs l us ge gb gq gt) (hg:W.grownBy W' (some gt)) (hp:p <= us.length) (ho:W'.ownsRow B 54 5 (.slice (some ⟨g2,0,none⟩) (us.length+1) c2) (us.length+1) ((us.take p++cqp.newT n :: us.drop p).flatMap su.c)):Ca W' B es bs l (us.take p++cqp.newT n :: us.drop p) ge gb gq g2:=by
 have ht:=tn_of hg
 have hq:=su.own_g h.ht.own
 rw [<- cqp.ins_len us p (cqp.newT n) hp] at ho
 obtain ⟨k1,k2⟩:=owns_ownO su.c_len ho
 obtain ⟨cur,hc⟩:=id hq
 refine ⟨ro2.keptE h.he (ht.block ge h.he.lt (ne_blk (by decide) hq (feT h.he))),ro2.keptB h.hb (ht.block gb h.hb.lt (ne_blk (by decide) hq (fbT h.hb))),h.hq.turn ht (fun k e=>by subst e; exact ⟨cur,_,hc,by decide,by decide,by decide⟩),⟨k1,k2,fun r hr=>?_,fun r hr=>?_,cqp.ins_pw h.ht.pw (fun e _=>⟨fun k _ hk=>hk.1 rfl,fun k _ hk=>hk.1 rfl⟩) (fun e _=>⟨fun k hk _=>hk.1 rfl,fun k hk _=>hk.1 rfl⟩)⟩,h.be,h.bb,h.eb⟩
 ·rcases cqp.ins_mem hr with rfl | hr
  ·exact .inl rfl
  ·exact mine_keep (by decide) ht hq (h.ht.ea r hr)
 ·rcases cqp.ins_mem hr with rfl | hr
  ·exact .inl rfl
  ·exact mine_keep (by decide) ht hq (h.ht.eb r hr)
theorem Iq.putQ {V V2:World} {g2 c2 p:Nat} (h:Iq w es bs qs ts n a0 b0 q0 t0 ec bc qc tc ge gb gq gt gn qk tk l us V) (hg:V.grownBy V2 (some gq)) (hp:p <= l.length) (ho:V2.ownsRow (w.heap.size+2) 58 4 (.slice (some ⟨g2,0,none⟩) (l.length+1) c2) (l.length+1) ((l.take p++cqp.newQ n :: l.drop p).flatMap qu.c)):Iq w es bs qs ts n a0 b0 q0 t0 ec bc qc tc ge gb g2 gt gn c2 tk (l.take p++cqp.newQ n :: l.drop p) us (V2.setCell ⟨gn,2,none⟩ (.slice (some ⟨g2,0,none⟩) (l.length+1) c2)):=by
 have ht:=tn_of hg
 have hq:=qu.own_g h.ca.hq.own
 have hbk:∀ (b:Nat) (cur:Array Value),V.heap[b]?=some (.cells cur 38 (0,0))->V2.heap[b]?=some (.cells cur 38 (0,0)):=fun b cur hb=>(ht.block b (Array.getElem?_eq_some_iff.1 hb).1 (ne_blk (by decide) hq ⟨_,hb⟩)).trans hb
 have hgl:=h.gl
 have hgq:=h.ca.hq.bg
 have hN:=hbk _ _ h.gnb
 have ht2:fo.Tn V2 (V2.setCell ⟨gn,2,none⟩ (.slice (some ⟨g2,0,none⟩) (l.length+1) c2)) (fun k=>k=gn):=(fo.Tn.refl V2 (fun k=>k=gn)).set (g:=gn) rfl _ _
 refine ⟨(h.bel.trans (ht.below h.bel.size (fun k e=>by subst e; omega))).setCell (show w.heap.size <= gn by omega) _,boff (hbk _ _ h.box) _ _ _ (by omega),boff (hbk _ _ h.res) _ _ _ (by omega),?_,ca_keep (ca_putQ h.ca hg hp ho) ht2 ⟨_,hN⟩ ⟨by decide,by decide,by decide,by decide,by decide,by decide,by decide,by decide⟩,fun r hr=>?_,h.gl⟩
 ·have:=bset hN 2 (.slice (some ⟨g2,0,none⟩) (l.length+1) c2)
  rw [cqp.ins_len l p (cqp.newQ n) hp]
  exact this
 ·refine (h.at_ r hr).imp (fun k=>?_) id
  have m:=And.intro (h.ca.ht.ea r hr) (h.ca.ht.eb r hr)
  have k2:=ok_set m hq k ht
  exact ok_set ⟨(ca_putQ h.ca hg hp ho).ht.ea r hr,(ca_putQ h.ca hg hp ho).ht.eb r hr⟩ ⟨_,hN⟩ k2 ht2
theorem Iq.putT {V V2:World} {g2 c2 p:Nat} (h:Iq w es bs qs ts n a0 b0 q0 t0 ec bc qc tc ge gb gq gt gn qk tk l us V) (hg:V.grownBy V2 (some gt)) (hp:p <= us.length) (ho:V2.ownsRow (w.heap.size+2) 54 5 (.slice (some ⟨g2,0,none⟩) (us.length+1) c2) (us.length+1) ((us.take p++cqp.newT n :: us.drop p).flatMap su.c)):Iq w es bs qs ts n a0 b0 q0 t0 ec bc qc tc ge gb gq g2 gn qk c2 l (us.take p++cqp.newT n :: us.drop p) (V2.setCell ⟨gn,3,none⟩ (.slice (some ⟨g2,0,none⟩) (us.length+1) c2)):=by
 have ht:=tn_of hg
 have hq:=su.own_g h.ca.ht.own
 have hbk:∀ (b:Nat) (cur:Array Value),V.heap[b]?=some (.cells cur 38 (0,0))->V2.heap[b]?=some (.cells cur 38 (0,0)):=fun b cur hb=>(ht.block b (Array.getElem?_eq_some_iff.1 hb).1 (ne_blk (by decide) hq ⟨_,hb⟩)).trans hb
 have hgl:=h.gl
 have hgq:=h.ca.ht.bg
 have hN:=hbk _ _ h.gnb
 have ht2:fo.Tn V2 (V2.setCell ⟨gn,3,none⟩ (.slice (some ⟨g2,0,none⟩) (us.length+1) c2)) (fun k=>k=gn):=(fo.Tn.refl V2 (fun k=>k=gn)).set (g:=gn) rfl _ _
 refine ⟨(h.bel.trans (ht.below h.bel.size (fun k e=>by subst e; omega))).setCell (show w.heap.size <= gn by omega) _,boff (hbk _ _ h.box) _ _ _ (by omega),boff (hbk _ _ h.res) _ _ _ (by omega),?_,ca_keep (ca_putT h.ca hg hp ho) ht2 ⟨_,hN⟩ ⟨by decide,by decide,by decide,by decide,by decide,by decide,by decide,by decide⟩,fun r hr=>?_,h.gl⟩
 ·have:=bset hN 3 (.slice (some ⟨g2,0,none⟩) (us.length+1) c2)
  rw [cqp.ins_len us p (cqp.newT n) hp]
  exact this
 ·rcases cqp.ins_mem hr with rfl | hr2
  ·exact .inr rfl
  ·refine (h.at_ r hr2).imp (fun k=>?_) id
   have k2:=ok_set ⟨h.ca.ht.ea r hr2,h.ca.ht.eb r hr2⟩ hq k ht
   exact ok_set ⟨(ca_putT h.ca hg hp ho).ht.ea r hr,(ca_putT h.ca hg hp ho).ht.eb r hr⟩ ⟨_,hN⟩ k2 ht2
theorem Iq.fin {Q:List qu.E} {U:List su.E} (h:Iq w es bs qs ts n a0 b0 q0 t0 ec bc qc tc ge gb gq gt gn qk tk l us W) (hs:cb.Same Q l U us):Hid (∀ V,fo.Tn W V (fun k=>k=w.heap.size+1)->cn.IA w V es bs Q U ge gb gq gt l us):=fun V ht=>by
 have k:=cn.ca_kept h.ca ht (fun k e=>by omega)
 exact ⟨⟨k.he,k.hb,⟨k.hq.own,Nat.le_trans (by omega) k.hq.bg,fun r hr=>mine_lo (k.hq.ea r hr) (by omega),fun r hr=>mine_lo (k.hq.eb r hr) (by omega),k.hq.pw⟩,⟨k.ht.own,Nat.le_trans (by omega) k.ht.bg,fun r hr=>mine_lo (k.ht.ea r hr) (by omega),fun r hr=>mine_lo (k.ht.eb r hr) (by omega),k.ht.pw⟩,Nat.le_trans (by omega) k.be,Nat.le_trans (by omega) k.bb,k.eb⟩,hs,h.bel.trans (ht.below h.bel.size (fun k e=>by omega))⟩
theorem Iq.ok (h:Iq w es bs qs ts n a0 b0 q0 t0 ec bc qc tc ge gb gq gt gn qk tk l us W) (F:cb.Fit es bs l us) (hn:n.size <= 1048576):Calls Tryz.prog 22 #[.agg #[.slice (some ⟨ge,0,none⟩) es.length es.length,.slice (some ⟨gb,0,none⟩) bs.length bs.length,.slice (some ⟨gq,0,none⟩) l.length qk,.slice (some ⟨gt,0,none⟩) us.length tk]] W fun e w'=>e=.returned (.bool (okC es bs l us))/\Below W.heap.size W w' :=
 coi.impl_ok es bs l us _ _ gq gt es.length bs.length qk tk W F.ql F.tl (qu.r_of h.ca.hq.own.row h.ca.hq.own.lt) (su.r_of h.ca.ht.own.row h.ca.ht.own.lt) (cb.kq_impl F (fun r hr=>⟨(h.ca.hq.ea r hr).row,(h.ca.hq.eb r hr).row⟩)) (kt_impl F hn h.at_) (cb.kr_impl F ge gb es.length bs.length h.ca.he.all h.ca.hb.all)
end
end Go.Proofs.YtaoefccgdfcchaaGreat.cqk
