/- RetBoth, GetSpec. -/
import Derived.Test.YteoojodkkjepeaaGreatKp40
import Derived.Test.YteoojodkkjepeaaGreatKp38
import Derived.Test.YteoojodkkjepeaaGreatKp42
import Derived.Test.YteoojodkkjepeaaGreatKp43
import Derived.Test.YteoojodkkjepeaaGreatKp44
import Derived.Test.YteoojodkkjepeaaGreatKp23
set_option maxRecDepth 100000
set_option maxHeartbeats 8000000
set_option linter.unusedVariables false
namespace Go.Proofs.YteoojodkkjepeaaGreat.rbo
open ChangeShapes WideShapes ChangeAt RowKit
def wr4 (w:World)(b:Nat)(v0 v1 v2 v3:Value):World:=(((w.setCell ⟨b,0,none⟩ v0).setCell ⟨b,1,none⟩ v1).setCell ⟨b,2,none⟩ v2).setCell ⟨b,3,none⟩ v3
def wr5 (w:World)(b:Nat)(v0 v1 v2 v3 v4:Value):World:=((((w.setCell ⟨b,0,none⟩ v0).setCell ⟨b,1,none⟩ v1).setCell ⟨b,2,none⟩ v2).setCell ⟨b,3,none⟩ v3).setCell ⟨b,4,none⟩ v4
theorem wr4_heap {w:World}{b g:Nat}{v0 v1 v2 v3:Value}(h:g≠b):(wr4 w b v0 v1 v2 v3).heap[g]?=w.heap[g]?:=by
 unfold wr4
 rw [Below.heap_setCell _ _ _ _ h,Below.heap_setCell _ _ _ _ h,Below.heap_setCell _ _ _ _ h,Below.heap_setCell _ _ _ _ h]
theorem wr5_heap {w:World}{b g:Nat}{v0 v1 v2 v3 v4:Value}(h:g≠b):(wr5 w b v0 v1 v2 v3 v4).heap[g]?=w.heap[g]?:=by
 unfold wr5
 rw [Below.heap_setCell _ _ _ _ h,Below.heap_setCell _ _ _ _ h,Below.heap_setCell _ _ _ _ h,Below.heap_setCell _ _ _ _ h,Below.heap_setCell _ _ _ _ h]
def Sr (V:World)(b c:Nat)(v0 v1 v2 v3 u0 u1 u2 u3 u4:Value)(_:Unit):Nat->World->Prop
 | 0,W=>W=V.drew
 | 1,W=>W=wr4 V.drew b v0 v1 v2 v3
 | _,W=>W=wr5 (wr4 V.drew b v0 v1 v2 v3) c u0 u1 u2 u3 u4
theorem sr_heap {V W:World}{b c g k:Nat}{v0 v1 v2 v3 u0 u1 u2 u3 u4:Value}{s:Unit}(h:Sr V b c v0 v1 v2 v3 u0 u1 u2 u3 u4 s k W)(hb:g≠b)(hc:g≠c):W.heap[g]?=V.heap[g]?:=by
 match k,h with
 | 0,h=>rw [show W=V.drew from h];rfl
 | 1,h=>rw [show W=wr4 V.drew b v0 v1 v2 v3 from h,wr4_heap hb];rfl
 | k+2,h=>rw [show W=wr5 (wr4 V.drew b v0 v1 v2 v3) c u0 u1 u2 u3 u4 from h,wr5_heap hc,wr4_heap hb];rfl
end Go.Proofs.YteoojodkkjepeaaGreat.rbo
namespace Go.Proofs.YteoojodkkjepeaaGreat.gsp
open ChangeShapes WideShapes ChangeAt RowKit rr ra rt fl co eb scc
structure Kg (w:World)(es:List Ex)(bs:List Bi)(qs:List qu.E)(ts:List su.E)(a0 b0 q0 t0 ec bc qc tc g1 c1 h1 c2 gn S0:Nat)(qa ta:Option Addr)(qk tk:Nat)(l:List qu.E)(us:List su.E)(W:World):Prop where
 kn:nkt.Kn w es bs qs ts a0 b0 q0 t0 ec bc qc tc g1 c1 h1 c2 gn S0 qa ta qk tk l us W
 rem:W.heap[w.heap.size+2]?=some (.cells #[.int .i64 0,.string ⟨#[]⟩,.string ⟨#[]⟩,.string ⟨#[]⟩,.bool false] 48 (0,0))
 gl:w.heap.size+3 <= gn
 hs:w.heap.size+3 <= S0
section
variable {w:World} {es:List Ex} {bs:List Bi} {qs:List qu.E} {ts:List su.E} {a0 b0 q0 t0 ec bc qc tc g1 c1 h1 c2 gn S0:Nat} {qa ta:Option Addr} {qk tk:Nat} {l:List qu.E} {us:List su.E} {W W':World}
theorem Kg.on (h:Kg w es bs qs ts a0 b0 q0 t0 ec bc qc tc g1 c1 h1 c2 gn S0 qa ta qk tk l us W)(hb:Below W.heap.size W W'):Kg w es bs qs ts a0 b0 q0 t0 ec bc qc tc g1 c1 h1 c2 gn S0 qa ta qk tk l us W':=⟨h.kn.on hb,bstay h.rem hb (Array.getElem?_eq_some_iff.1 h.rem).1,h.gl,h.hs⟩
theorem qrow {g:Nat}{l:List qu.E}(h:qu.R W g l):Row qu.c 4 W W.heap.size (some ⟨g,0,none⟩) l:=.inr ⟨g,0,rfl,h.1,fun i e he j v hv=>by
 obtain⟨a0,a1,a2,a3⟩:=h.2 i e he
 match j,hv with
 | 0,hv=>cases hv;simpa using a0
 | 1,hv=>cases hv;simpa using a1
 | 2,hv=>cases hv;simpa using a2
 | 3,hv=>cases hv;simpa using a3⟩
end
theorem kg_of {w W w1 Y:World}{es:List Ex}{bs:List Bi}{qs ks:List qu.E}{ts us:List su.E}{a0 b0 q0 t0 ec bc qc tc g1 c1 h1 c2 S0:Nat}{qa ta:Option Addr}{qk tk:Nat}(hsm:cb.Same qs ks ts us)(h:Ke W es bs g1 c1 h1 c2 S0 (.slice qa qs.length qk) (.slice ta ts.length tk) ks us w1)(hW:Below w.heap.size w W)(hS:W.heap.size=w.heap.size+3)(hA:W.heap[w.heap.size]?=some (.cells #[.slice (some ⟨a0,0,none⟩) es.length ec,.slice (some ⟨b0,0,none⟩) bs.length bc,.slice (some ⟨q0,0,none⟩) qs.length qc,.slice (some ⟨t0,0,none⟩) ts.length tc] 39 (0,0)))(hR:W.heap[w.heap.size+1]?=some (.cells #[.slice none 0 0,.slice none 0 0,.slice none 0 0,.slice none 0 0] 39 (0,0)))(hM:W.heap[w.heap.size+2]?=some (.cells #[.int .i64 0,.string ⟨#[]⟩,.string ⟨#[]⟩,.string ⟨#[]⟩,.bool false] 48 (0,0)))(hY:Below w1.heap.size w1 Y)(hN:Y.heap[w1.heap.size]?=some (.cells #[.slice (some ⟨g1,0,none⟩) es.length c1,.slice (some ⟨h1,0,none⟩) bs.length c2,.slice qa qs.length qk,.slice ta ts.length tk] 39 (0,0))):Kg w es bs qs ts a0 b0 q0 t0 ec bc qc tc g1 c1 h1 c2 w1.heap.size S0 qa ta qk tk ks us Y:=by
 have hs:=h.bel.size
 have hb:Below W.heap.size W Y:=h.bel.trans (hY.mono hs)
 have hh:=h.hs
 exact⟨nkt.kn_of' hsm h hW (by omega) hA hR hY hN,bstay hM hb (by omega),by omega,by omega⟩
theorem Kg.fin {w:World}{es:List Ex}{bs:List Bi}{qs:List qu.E}{ts:List su.E}{a0 b0 q0 t0 ec bc qc tc g1 c1 h1 c2 gn S0:Nat}{qa ta:Option Addr}{qk tk:Nat}{l Q:List qu.E}{us:List su.E}{W:World}(h:Kg w es bs qs ts a0 b0 q0 t0 ec bc qc tc g1 c1 h1 c2 gn S0 qa ta qk tk l us W)(hs:cb.Same Q l ts us):Hid (∀ V,fo.Tn W V (fun k=>k=w.heap.size+1 ∨ k=w.heap.size+2)->cn.SA w V es bs Q ts (some ⟨g1,0,none⟩) (some ⟨h1,0,none⟩) qa ta l us):=fun V ht=>by
 have hlo:=h.hs
 have km:∀ {α:Type} {c:α->List Value} {n:Nat} {U:TypeId} {a:Option Addr} {l:List α},fo.Mine c n U W S0 a l->fo.Mine c n U V w.heap.size a l:=fun m=>mine_lo (m.kept ht (fun k hk hz=>by have:=(m.blk_le hk).1;rcases hz with rfl | rfl <;> omega)) (by omega)
 have ko:∀ {α:Type} {c:α->List Value} {n:Nat} {U:TypeId} {a:Option Addr} {l:List α},U≠48->fo.Mine c n U W (w.heap.size+2) a l->fo.Mine c n U V w.heap.size a l:=fun hU m=>mine_lo (m.kept ht (fun k hk hz=>by
  rcases hz with rfl | rfl
  ·have:=(m.blk_le hk).1;omega
  ·exact rmk.ne_type hU (rmk.mine_type m hk) ⟨_,h.rem⟩)) (by omega)
 refine⟨ko (by decide) (qdm.own_mine Go.Proofs.YteoojodkkjepeaaGreat.su.cE_len h.kn.o1 (Nat.le_refl _)),ko (by decide) (qdm.own_mine Go.Proofs.YteoojodkkjepeaaGreat.su.cB_len h.kn.o2 (Nat.le_refl _)),?_,fun r hr=>⟨km (h.kn.ea r hr),km (h.kn.eb r hr)⟩,?_,fun r hr=>?_,hs,h.kn.bel.trans (ht.below h.kn.bel.size (fun k e=>by rcases e with rfl | rfl <;> omega))⟩
 ·rcases h.kn.own with h0 | ⟨g,rfl,hB,h3⟩
  ·exact .inl h0
  ·exact km (.inr ⟨g,0,rfl,hB,h3⟩)
 ·by_cases h0:us=[]
  ·exact .inl h0
  ·have hso:=h.kn.so
   rw [<- hs.tl] at hso
   obtain⟨_,⟨e,h2⟩ | ⟨g,cap,cur,e,hB,_⟩⟩:=id hso
   ·exact absurd (List.eq_nil_of_length_eq_zero h2) h0
   ·obtain rfl:ta=some ⟨g,0,none⟩:=(Value.slice.inj e).1
    exact km (qdm.own_mine su.c_len hso (Nat.le_refl _))
 ·obtain⟨g,x,e1,e2,o1,o2⟩:=h.kn.se r hr
  rw [e1,e2]
  exact⟨km (qdm.own_mine flY.c_len o1 (Nat.le_refl _)),km (qdm.own_mine flK.c_len o2 (Nat.le_refl _))⟩
def PG (w:World)(es:List Ex)(bs:List Bi)(Q:List qu.E)(ts:List su.E)(M:flM.Ms)(G:Bool)(e:Ending)(w':World):Prop:=∃ sea sba sqa sta sec sbc sqc stc ls us,e=.returned (.tuple #[.agg #[.slice sea es.length sec,.slice sba bs.length sbc,.slice sqa (Q).length sqc,.slice sta ts.length stc],.agg #[.int .i64 M.q,.string M.x,.string M.k,.string M.b,.bool M.a],.bool G])/\Hid (cn.SA w w' es bs (Q) ts sea sba sqa sta ls us)
theorem place_cases (l:List qu.E)(name:ByteArray):qu.place l name=-1 ∨ ∃ (i:Nat) (s:qu.E),l[i]?=some s/\qu.place l name=i:=by
 unfold qu.place
 cases h:l.findIdx? (fun e=>decide (e.nm=name)) with
 | none=>exact .inl rfl
 | some i =>
  obtain⟨h1,_⟩:=List.findIdx?_eq_some_iff_getElem.1 h
  exact .inr ⟨i,l[i],List.getElem?_eq_getElem h1,rfl⟩
theorem spec_get (es:List Ex)(bs:List Bi)(qs:List qu.E)(ts:List su.E)(a0 b0 q0 t0 ec bc qc tc:Nat)(name:ByteArray)(o t:Int)(ok:Bool)(Q:List qu.E)(M:flM.Ms)(G:Bool)(w:World)(F:cb.Fit es bs qs ts)(hE:RE w a0 es)(hB:RB w b0 bs)(hQ:qu.R w q0 qs)(hT:su.R w t0 ts)(hqr:∀ r∈qs,∃ g h,r.ra=some ⟨g,0,none⟩/\r.ha=some ⟨h,0,none⟩/\Row flM.c 5 w w.heap.size r.ra r.rs/\Row flH.c 7 w w.heap.size r.ha r.hs)(htr:∀ r∈ts,cb.At w r)(hok:(∀ V,Below w.heap.size w V->Calls Tryz.prog 11 #[.agg #[.slice (some ⟨a0,0,none⟩) es.length ec,.slice (some ⟨b0,0,none⟩) bs.length bc,.slice (some ⟨q0,0,none⟩) qs.length qc,.slice (some ⟨t0,0,none⟩) ts.length tc]] V fun e w'=>e=.returned (.bool ok)/\Below V.heap.size V w'))(hno:(ok=false ∨ qu.place qs name=-1)->Q=qs/\M=⟨0,⟨#[]⟩,⟨#[]⟩,⟨#[]⟩,false⟩/\G=false)(hyes:ok=true->∀ (i:Nat) s,qs[i]?=some s->qu.place qs name=i->Q=qs.set i (cge.popE o t s)/\M=qpp.ansM s.nm s.nx s.rs s.hs o t/\G=qpp.good s.nm s.nx s.rs s.hs o t) :
  Calls Tryz.prog 19 #[.agg #[.slice (some ⟨a0,0,none⟩) es.length ec,.slice (some ⟨b0,0,none⟩) bs.length bc,.slice (some ⟨q0,0,none⟩) qs.length qc,.slice (some ⟨t0,0,none⟩) ts.length tc],.string name,.int .i64 o,.int .i64 t] w (PG w es bs Q ts M G):=by
 suffices hall:∀ PO:Ending->World->Prop,(∀ e w',PG w es bs Q ts M G e w'->PO e w')->Calls Tryz.prog 19 #[.agg #[.slice (some ⟨a0,0,none⟩) es.length ec,.slice (some ⟨b0,0,none⟩) bs.length bc,.slice (some ⟨q0,0,none⟩) qs.length qc,.slice (some ⟨t0,0,none⟩) ts.length tc],.string name,.int .i64 o,.int .i64 t] w PO from hall _ (fun _ _ h=>h)
 intro PO hPO
 have HPO:Hid (∀ e w',PG w es bs Q ts M G e w'->PO e w'):=hPO
 have HCS:Hid (((ok=false ∨ qu.place qs name=-1)/\Q=qs/\M=⟨0,⟨#[]⟩,⟨#[]⟩,⟨#[]⟩,false⟩/\G=false) ∨ ∃ (i:Nat) (s:qu.E),ok=true/\qs[i]?=some s/\qu.place qs name=i/\Q=qs.set i (cge.popE o t s)/\M=qpp.ansM s.nm s.nx s.rs s.hs o t/\G=qpp.good s.nm s.nx s.rs s.hs o t):=by
  show _ ∨ _
  cases ok with
  | false=>exact .inl ⟨.inl rfl,hno (.inl rfl)⟩
  | true =>
   rcases place_cases qs name with h | ⟨i,s,h1,h2⟩
   ·exact .inl ⟨.inr h,hno (.inr h)⟩
   ·exact .inr ⟨i,s,rfl,h1,h2,hyes rfl i s h1 h2⟩
 clear hno hyes hPO
 have hWb:Below w.heap.size w (((w.alloc (.cells #[.slice (some ⟨a0,0,none⟩) es.length ec,.slice (some ⟨b0,0,none⟩) bs.length bc,.slice (some ⟨q0,0,none⟩) qs.length qc,.slice (some ⟨t0,0,none⟩) ts.length tc] 39)).alloc (.cells #[.slice none 0 0,.slice none 0 0,.slice none 0 0,.slice none 0 0] 39)).alloc (.cells #[.int .i64 0,.string ⟨#[]⟩,.string ⟨#[]⟩,.string ⟨#[]⟩,.bool false] 48)):=(((Below.refl _ _).alloc (Nat.le_refl _) _).alloc (by simp) _).alloc (by simp;omega) _
 have hA:=bold (bold (bnew w #[.slice (some ⟨a0,0,none⟩) es.length ec,.slice (some ⟨b0,0,none⟩) bs.length bc,.slice (some ⟨q0,0,none⟩) qs.length qc,.slice (some ⟨t0,0,none⟩) ts.length tc] 39) (.cells #[.slice none 0 0,.slice none 0 0,.slice none 0 0,.slice none 0 0] 39)) (.cells #[.int .i64 0,.string ⟨#[]⟩,.string ⟨#[]⟩,.string ⟨#[]⟩,.bool false] 48)
 have hR:=bold (bnew (w.alloc (.cells #[.slice (some ⟨a0,0,none⟩) es.length ec,.slice (some ⟨b0,0,none⟩) bs.length bc,.slice (some ⟨q0,0,none⟩) qs.length qc,.slice (some ⟨t0,0,none⟩) ts.length tc] 39)) #[.slice none 0 0,.slice none 0 0,.slice none 0 0,.slice none 0 0] 39) (.cells #[.int .i64 0,.string ⟨#[]⟩,.string ⟨#[]⟩,.string ⟨#[]⟩,.bool false] 48)
 have hM:=bnew ((w.alloc (.cells #[.slice (some ⟨a0,0,none⟩) es.length ec,.slice (some ⟨b0,0,none⟩) bs.length bc,.slice (some ⟨q0,0,none⟩) qs.length qc,.slice (some ⟨t0,0,none⟩) ts.length tc] 39)).alloc (.cells #[.slice none 0 0,.slice none 0 0,.slice none 0 0,.slice none 0 0] 39)) #[.int .i64 0,.string ⟨#[]⟩,.string ⟨#[]⟩,.string ⟨#[]⟩,.bool false] 48
 rw [World.size_alloc] at hR
 simp only [World.size_alloc,Nat.add_assoc,Nat.reduceAdd] at hM
 have hS:(((w.alloc (.cells #[.slice (some ⟨a0,0,none⟩) es.length ec,.slice (some ⟨b0,0,none⟩) bs.length bc,.slice (some ⟨q0,0,none⟩) qs.length qc,.slice (some ⟨t0,0,none⟩) ts.length tc] 39)).alloc (.cells #[.slice none 0 0,.slice none 0 0,.slice none 0 0,.slice none 0 0] 39)).alloc (.cells #[.int .i64 0,.string ⟨#[]⟩,.string ⟨#[]⟩,.string ⟨#[]⟩,.bool false] 48)).heap.size=w.heap.size+3:=by simp
 obtain⟨W,hW⟩:∃ W,((w.alloc (.cells #[.slice (some ⟨a0,0,none⟩) es.length ec,.slice (some ⟨b0,0,none⟩) bs.length bc,.slice (some ⟨q0,0,none⟩) qs.length qc,.slice (some ⟨t0,0,none⟩) ts.length tc] 39)).alloc (.cells #[.slice none 0 0,.slice none 0 0,.slice none 0 0,.slice none 0 0] 39)).alloc (.cells #[.int .i64 0,.string ⟨#[]⟩,.string ⟨#[]⟩,.string ⟨#[]⟩,.bool false] 48)=W:=⟨_,rfl⟩
 rw [hW] at hWb hA hR hM hS
 have hcopy:=scc.spec_copy es bs qs ts a0 b0 q0 t0 ec bc qc tc W F (hE.below hWb) (hB.below hWb) (hQ.below hWb) (hT.below hWb) (fun r hr=>by obtain⟨g,h,h1,h2,h3,h4⟩:=hqr r hr;exact⟨g,h,h1,h2,h3.inn hWb,h4.inn hWb⟩) (fun r hr=>(htr r hr).below hWb)
 obtain⟨x0,x1,x2,x3⟩:=fl.q4 hA
 have HAB:Hid (W.heap[w.heap.size]?=some (.cells #[.slice (some ⟨a0,0,none⟩) es.length ec,.slice (some ⟨b0,0,none⟩) bs.length bc,.slice (some ⟨q0,0,none⟩) qs.length qc,.slice (some ⟨t0,0,none⟩) ts.length tc] 39 (0,0))/\W.heap[w.heap.size+1]?=some (.cells #[.slice none 0 0,.slice none 0 0,.slice none 0 0,.slice none 0 0] 39 (0,0))/\W.heap[w.heap.size+2]?=some (.cells #[.int .i64 0,.string ⟨#[]⟩,.string ⟨#[]⟩,.string ⟨#[]⟩,.bool false] 48 (0,0))):=⟨hA,hR,hM⟩
 have HF:Hid (cb.Fit es bs qs ts):=F
 have HOK:Hid (∀ V,Below w.heap.size w V->Calls Tryz.prog 11 #[.agg #[.slice (some ⟨a0,0,none⟩) es.length ec,.slice (some ⟨b0,0,none⟩) bs.length bc,.slice (some ⟨q0,0,none⟩) qs.length qc,.slice (some ⟨t0,0,none⟩) ts.length tc]] V fun e w'=>e=.returned (.bool ok)/\Below V.heap.size V w'):=hok
 have HQR:Hid (qu.R w q0 qs):=hQ
 have HWB:Hid (Below w.heap.size w W):=hWb
 have HS2:Hid (W.heap.size=w.heap.size+3):=hS
 clear hE hB hQ hT hqr htr F hA hR hM hok hS
 go_enter Tryz.func19,Tryz.ntmps19
 go_wp2_with (go_at_call 51;fail)
 clear hW x0 x1 x2 x3
 refine hcopy.mono ?_
 rintro e w1 ⟨g1,c1,h1,c2,gn0,S0,x,y,ks,us,rfl,HSM,HKE⟩
 obtain⟨qa,qk,hxf⟩:∃ b c,x=.slice b ks.length c:=own_form HKE.out.qo
 obtain⟨ta,tk,hyf⟩:∃ b c,y=.slice b us.length c:=own_form HKE.out.so
 rw [HSM.out.ql] at hxf
 rw [HSM.out.tl] at hyf
 subst hxf hyf
 have hal:=fl.bl w1 (.cells #[.slice (some ⟨g1,0,none⟩) es.length c1,.slice (some ⟨h1,0,none⟩) bs.length c2,.slice qa qs.length qk,.slice ta ts.length tk] 39)
 have HG0:Hid (Kg w es bs qs ts a0 b0 q0 t0 ec bc qc tc g1 c1 h1 c2 w1.heap.size S0 qa ta qk tk ks us (w1.alloc (.cells #[.slice (some ⟨g1,0,none⟩) es.length c1,.slice (some ⟨h1,0,none⟩) bs.length c2,.slice qa qs.length qk,.slice ta ts.length tk] 39))):=kg_of HSM.out HKE.out HWB.out HS2.out HAB.out.1 HAB.out.2.1 HAB.out.2.2 hal (bnew w1 _ _)
 obtain⟨Y,hY⟩:∃ Y,w1.alloc (.cells #[.slice (some ⟨g1,0,none⟩) es.length c1,.slice (some ⟨h1,0,none⟩) bs.length c2,.slice qa qs.length qk,.slice ta ts.length tk] 39)=Y:=⟨_,rfl⟩
 rw [hY] at HG0
 have hat:=qu.spec_at qs (some ⟨q0,0,none⟩) (some ⟨a0,0,none⟩) (some ⟨b0,0,none⟩) (some ⟨t0,0,none⟩) qc es.length ec bs.length bc ts.length tc name Y HF.out.ql (qrow (HQR.out.below HG0.out.kn.bel))
 obtain⟨x0,x1,x2,x3⟩:=fl.q4 HG0.out.kn.box
 have HAD:Hid (∀ r∈ks,∃ gr gh,r.ra=some ⟨gr,0,none⟩/\r.ha=some ⟨gh,0,none⟩):=fun r hr=>by obtain⟨g,h,h1,h2,_⟩:=HKE.out.qe r hr;exact⟨g,h,h1,h2⟩
 have HCP:Hid (∀ r∈ks,r.rs.length <= r.rc/\r.hs.length <= r.hc):=fun r hr=>by obtain⟨g,h,h1,h2,o1,o2⟩:=HKE.out.qe r hr;exact⟨nkt.own_cap o1,nkt.own_cap o2⟩
 clear hcopy HKE hal HAB hWb
 go_wp2_with (go_at_call 52;fail)
 clear hY x0 x1 x2 x3
 refine hat.mono ?_
 rintro e w2 ⟨rfl,hb2⟩
 have HG2:Hid (Kg w es bs qs ts a0 b0 q0 t0 ec bc qc tc g1 c1 h1 c2 w1.heap.size S0 qa ta qk tk ks us w2):=HG0.out.on hb2
 clear hat HG0 hb2
 have k:=HOK.out w2 HG2.out.kn.bel
 obtain⟨x0,x1,x2,x3⟩:=fl.q4 HG2.out.kn.box
 go_wp2_with (go_at_call 11;fail)
 clear x0 x1 x2 x3
 refine k.mono ?_
 rintro e w3 ⟨rfl,hb3⟩
 have HG3:Hid (Kg w es bs qs ts a0 b0 q0 t0 ec bc qc tc g1 c1 h1 c2 w1.heap.size S0 qa ta qk tk ks us w3):=HG2.out.on hb3
 clear k HG2 hb3
 obtain⟨pl,hpl⟩:∃ pl,qu.place qs name=pl:=⟨_,rfl⟩
 rw [hpl] at HCS ⊢
 rcases HCS.out with⟨hn,hq0,rfl,rfl⟩ | ⟨i,s,rfl,hi,rfl,rfl,rfl,rfl⟩
 ·have hq1:=hq0.symm
  clear hq0 HCS HOK
  subst hq1
  have HFN:=HG3.out.fin HSM.out
  obtain⟨z0,z1,z2,z3⟩:=fl.q4 HG3.out.kn.res
  obtain⟨y0,y1,y2,y3,y4⟩:=fl.q5 HG3.out.rem
  obtain⟨f0,f1,f2,f3⟩:=fl.r4 HG3.out.kn.res
  obtain⟨e0,e1,e2,e3,e4⟩:=fl.r5 HG3.out.rem
  obtain⟨n0,n1,n2,n3⟩:=fl.q4 HG3.out.kn.gnb
  have hg1:w1.heap.size≠w.heap.size+1:=by have:=HG3.out.gl;omega
  have hg2:w1.heap.size≠w.heap.size+2:=by have:=HG3.out.gl;omega
  have hg3:w.heap.size+1≠w1.heap.size:=by omega
  have hg4:w.heap.size+2≠w1.heap.size:=by omega
  rcases hn with rfl | rfl
  ·go_wp2
   exact bodyPost_ret (v:=.tuple #[.agg #[.slice (some ⟨g1,0,none⟩) es.length c1,.slice (some ⟨h1,0,none⟩) bs.length c2,.slice qa qs.length qk,.slice ta ts.length tk],.agg #[.int .i64 0,.string ⟨#[]⟩,.string ⟨#[]⟩,.string ⟨#[]⟩,.bool false],.bool false]) (by simp [results,Tryz.results19,go_sem,z0,z1,z2,z3,y0,y1,y2,y3,y4]) rfl (HPO.out _ _ ⟨some ⟨g1,0,none⟩,some ⟨h1,0,none⟩,qa,ta,c1,c2,qk,tk,ks,us,rfl,HFN.out _ (by repeat' (first | apply fo.Tn.set | exact fo.Tn.refl _ _ | (show _ ∨ _;omega)))⟩)
  ·cases ok <;> go_wp2 <;> exact bodyPost_ret (v:=.tuple #[.agg #[.slice (some ⟨g1,0,none⟩) es.length c1,.slice (some ⟨h1,0,none⟩) bs.length c2,.slice qa qs.length qk,.slice ta ts.length tk],.agg #[.int .i64 0,.string ⟨#[]⟩,.string ⟨#[]⟩,.string ⟨#[]⟩,.bool false],.bool false]) (by simp [results,Tryz.results19,go_sem,z0,z1,z2,z3,y0,y1,y2,y3,y4]) rfl (HPO.out _ _ ⟨some ⟨g1,0,none⟩,some ⟨h1,0,none⟩,qa,ta,c1,c2,qk,tk,ks,us,rfl,HFN.out _ (by repeat' (first | apply fo.Tn.set | exact fo.Tn.refl _ _ | (show _ ∨ _;omega)))⟩)
 clear HCS HOK hpl
 have HI:Hid (qs[i]?=some s):=hi
 clear hi
 obtain⟨r,hr,hsame⟩:=HSM.out.q_at HI.out
 obtain⟨gr,gh,h1r,h2r⟩:=HAD.out r (List.mem_iff_getElem?.2 ⟨i,hr⟩)
 have hcp:=HCP.out r (List.mem_iff_getElem?.2 ⟨i,hr⟩)
 have f:=(cb.fit_same HF.out HSM.out).qf r (List.mem_iff_getElem?.2 ⟨i,hr⟩)
 have hil:i<qs.length:=(List.getElem?_eq_some_iff.1 HI.out).1
 have hks:ks=ks.take i++r :: ks.drop (i+1):=by
  obtain⟨h3,h4⟩:=List.getElem?_eq_some_iff.1 hr
  rw [<- h4,List.getElem_cons_drop,List.take_append_drop]
 have hdl:(ks.take i).length=i:=by rw [List.length_take];have:=HSM.out.ql;omega
 obtain⟨nm,nx,ra,rc,rs,ha,hc,hs⟩:=r
 obtain⟨e1,e2,e3,e4⟩:=hsame
 simp only at h1r h2r hcp f e1 e2 e3 e4
 subst h1r h2r
 have HSET:Hid (∀ r':qu.E,r'.nm=nm->r'.nx=nx->r'.rs=qpp.ansR nm nx rs hs o t->r'.hs=qpp.ansH nm nx rs hs o t->cb.Same (qs.set i (cge.popE o t s)) (ks.take i++r' :: ks.drop (i+1)) ts us):=fun r' k1 k2 k3 k4=>by
  have h5:=cge.set_same (o:=o) (t:=t) (r':=r') HSM.out HI.out ⟨by rw [k1,e1];rfl,by rw [k2,e2];rfl,by rw [k3,e1,e2,e3,e4];rfl,by rw [k4,e1,e2,e3,e4];rfl⟩
  have h6:ks.set i r'=ks.take i++r' :: ks.drop (i+1):=by
   conv=>lhs;rw [hks]
   have:=qu.set_mid (ks.take i) (ks.drop (i+1)) ⟨nm,nx,some ⟨gr,0,none⟩,rc,rs,some ⟨gh,0,none⟩,hc,hs⟩ r'
   rw [hdl] at this
   exact this
  rw [h6] at h5
  exact h5
 have HEQ:Hid (∀ _:Unit,nm=s.nm/\nx=s.nx/\rs=s.rs/\hs=s.hs):=fun _=>⟨e1,e2,e3,e4⟩
 have hG3:=HG3.out
 rw [hks] at hG3
 clear HG3
 have HG3:Hid (Kg w es bs qs ts a0 b0 q0 t0 ec bc qc tc g1 c1 h1 c2 w1.heap.size S0 qa ta qk tk (ks.take i++⟨nm,nx,some ⟨gr,0,none⟩,rc,rs,some ⟨gh,0,none⟩,hc,hs⟩ :: ks.drop (i+1)) us w3):=hG3
 obtain⟨Dl,hDl⟩:∃ Dl,ks.take i=Dl:=⟨_,rfl⟩
 obtain⟨Ql,hQl⟩:∃ Ql,ks.drop (i+1)=Ql:=⟨_,rfl⟩
 rw [hDl,hQl] at HG3 HSET
 rw [hDl] at hdl
 obtain⟨gq,hgq,hgl⟩:∃ g,qa=some ⟨g,0,none⟩/\S0 <= g:=by
  rcases HG3.out.kn.own with h0 | ⟨g,h1,h2,_⟩
  ·simp at h0
  ·exact⟨g,h1,h2⟩
 subst hgq
 have i2:(i:Int)<(qs.length:Int):=by omega
 have n2:w3.cell? ⟨w1.heap.size,2,none⟩=some (.slice (some ⟨gq,0,none⟩) qs.length qk):=bcell HG3.out.kn.gnb rfl
 obtain⟨c0,c1',c2',c3'⟩:=nkt.Kn.cells hdl HG3.out.kn
 simp only at c0 c1' c2' c3'
 have hpop:=qom.spec_popM nm nx rs hs gr gh rc hc o t w3 f hcp.1 hcp.2 (HG3.out.kn.ea _ qu.mid_in).row (HG3.out.kn.eb _ qu.mid_in).row
 have HDL:Hid (Dl.length=i):=hdl
 clear hks hDl hQl hdl e1 e2 e3 e4 f hr hcp hG3
 go_wp2_with (go_at_call 64;fail)
 clear n2 c0 c1' c2' c3'
 refine hpop.mono ?_
 rintro e w4 ⟨sa,ce,sb,cb,rfl,m1,m2,hb4⟩
 obtain⟨L,hL⟩:∃ L,qpp.ansR nm nx rs hs o t=L:=⟨_,rfl⟩
 obtain⟨Hh,hHh⟩:∃ Hh,qpp.ansH nm nx rs hs o t=Hh:=⟨_,rfl⟩
 obtain⟨⟨Mq,Mx,Mk,Mb,Ma⟩,hMM⟩:∃ MM,qpp.ansM nm nx rs hs o t=MM:=⟨_,rfl⟩
 obtain⟨GD,hGD⟩:∃ GD,qpp.good nm nx rs hs o t=GD:=⟨_,rfl⟩
 have HAN:Hid (∀ _:Unit,qpp.ansM s.nm s.nx s.rs s.hs o t=⟨Mq,Mx,Mk,Mb,Ma⟩/\qpp.good s.nm s.nx s.rs s.hs o t=GD):=fun _=>by
  obtain⟨k1,k2,k3,k4⟩:=HEQ.out ()
  rw [<- k1,<- k2,<- k3,<- k4]
  exact⟨hMM,hGD⟩
 rw [hL] at m1 HSET
 rw [hHh] at m2 HSET
 rw [hL,hHh,hMM,hGD]
 have hS4:=HG3.out.kn.szS
 have hgq4:gq<w4.heap.size:=Nat.lt_of_lt_of_le HG3.out.kn.at_.lt hb4.size
 have hlo4:w1.heap.size<w4.heap.size:=Nat.lt_of_lt_of_le (Array.getElem?_eq_some_iff.1 HG3.out.kn.gnb).1 hb4.size
 obtain⟨V,hV,hal,bq,bm,_⟩:=fl.bx2 w4 #[.string nm,.int .i64 nx,.slice sa L.length ce,.slice sb Hh.length cb] #[.int .i64 Mq,.string Mx,.string Mk,.string Mb,.bool Ma] 68 48
 have hGV:=(HG3.out.on hb4).on hal
 have hput:=nkt.Kn.put (r':=⟨nm,nx,sa,ce,L,sb,cb,Hh⟩) HDL.out rfl hGV.kn (mine_lo (m1.below hal) (by omega)) (mine_lo (m2.below hal) (by omega))
 obtain⟨V2,hV2⟩:∃ V2,(((V.setCell ⟨gq,i*4,none⟩ (.string nm)).setCell ⟨gq,i*4+1,none⟩ (.int .i64 nx)).setCell ⟨gq,i*4+2,none⟩ (.slice sa L.length ce)).setCell ⟨gq,i*4+3,none⟩ (.slice sb Hh.length cb)=V2:=⟨_,rfl⟩
 simp only at hput
 rw [hV2] at hput
 have hlo:=hGV.hs
 have HG5:Hid (Kg w es bs qs ts a0 b0 q0 t0 ec bc qc tc g1 c1 h1 c2 w1.heap.size S0 (some ⟨gq,0,none⟩) ta qk tk (Dl++⟨nm,nx,sa,ce,L,sb,cb,Hh⟩ :: Ql) us V2):=⟨hput,by rw [<- hV2];exact boff (boff (boff (boff hGV.rem _ _ _ (by omega)) _ _ _ (by omega)) _ _ _ (by omega)) _ _ _ (by omega),hGV.gl,hGV.hs⟩
 have bm2:V2.heap[w4.heap.size+1]?=some (.cells #[.int .i64 Mq,.string Mx,.string Mk,.string Mb,.bool Ma] 48 (0,0)):=by rw [<- hV2];exact boff (boff (boff (boff bm _ _ _ (by omega)) _ _ _ (by omega)) _ _ _ (by omega)) _ _ _ (by omega)
 have HFN:=HG5.out.fin (HSET.out ⟨nm,nx,sa,ce,L,sb,cb,Hh⟩ rfl rfl rfl rfl)
 have p2:V.cell? ⟨w1.heap.size,2,none⟩=some (.slice (some ⟨gq,0,none⟩) qs.length qk):=bcell hGV.kn.gnb rfl
 obtain⟨k0,k1,k2,k3⟩:=fl.q4 bq
 obtain⟨c0,c1',c2',c3'⟩:=nkt.Kn.cells HDL.out hGV.kn
 obtain⟨u0,u1,u2,u3⟩:=nkt.Kn.frees HDL.out hGV.kn
 simp only at c0 c1' c2' c3'
 obtain⟨j0,j1,j2,j3,j4⟩:=fl.q5 bm2
 obtain⟨z0,z1,z2,z3⟩:=fl.q4 HG5.out.kn.res
 obtain⟨y0,y1,y2,y3,y4⟩:=fl.q5 HG5.out.rem
 obtain⟨f0,f1,f2,f3⟩:=fl.r4 HG5.out.kn.res
 obtain⟨e0,e1,e2,e3,e4⟩:=fl.r5 HG5.out.rem
 obtain⟨n0,n1,n2,n3⟩:=fl.q4 HG5.out.kn.gnb
 have hg1:w1.heap.size≠w.heap.size+1:=by have:=HG5.out.gl;omega
 have hg2:w1.heap.size≠w.heap.size+2:=by have:=HG5.out.gl;omega
 have hg3:w.heap.size+1≠w1.heap.size:=by omega
 have hg4:w.heap.size+2≠w1.heap.size:=by omega
 have hm1:w4.heap.size+1≠w.heap.size+1:=by have:=HG5.out.gl;omega
 have hm2:w4.heap.size+1≠w.heap.size+2:=by have:=HG5.out.gl;omega
 have HBX:Hid (V2.heap[w1.heap.size]?=some (.cells #[.slice (some ⟨g1,0,none⟩) es.length c1,.slice (some ⟨h1,0,none⟩) bs.length c2,.slice (some ⟨gq,0,none⟩) qs.length qk,.slice ta ts.length tk] 39 (0,0))/\V2.heap[w4.heap.size+1]?=some (.cells #[.int .i64 Mq,.string Mx,.string Mk,.string Mb,.bool Ma] 48 (0,0))/\V2.heap[w.heap.size+1]?=some (.cells #[.slice none 0 0,.slice none 0 0,.slice none 0 0,.slice none 0 0] 39 (0,0))/\V2.heap[w.heap.size+2]?=some (.cells #[.int .i64 0,.string ⟨#[]⟩,.string ⟨#[]⟩,.string ⟨#[]⟩,.bool false] 48 (0,0))):=⟨HG5.out.kn.gnb,bm2,HG5.out.kn.res,HG5.out.rem⟩
 clear hpop hal bq bm bm2 hGV hput m1 m2 hL hHh hMM hGD
 go_wp2
 refine chn.region (σ:=Unit) (ws:=(fun _:Unit=>[(47,.agg #[.slice (some ⟨g1,0,none⟩) es.length c1,.slice (some ⟨h1,0,none⟩) bs.length c2,.slice (some ⟨gq,0,none⟩) qs.length qk,.slice ta ts.length tk]),(48,.agg #[.int .i64 Mq,.string Mx,.string Mk,.string Mb,.bool Ma]),(49,.bool GD),(10,.bool GD)])) (js:=[3,4]) (S:=(rbo.Sr V2 (w.heap.size+1) (w.heap.size+2) (.slice (some ⟨g1,0,none⟩) es.length c1) (.slice (some ⟨h1,0,none⟩) bs.length c2) (.slice (some ⟨gq,0,none⟩) qs.length qk) (.slice ta ts.length tk) (.int .i64 Mq) (.string Mx) (.string Mk) (.string Mb) (.bool Ma))) [47,48,49,10] () (by kernel_rfl) (by kernel_rfl) (fun _=>rfl) (by kernel_rfl) (by decide) rfl ?each ?fin
 case each =>
  refine⟨chn.quiet 2 rfl (by decide) (.inl rfl) (by simp) (fun s=>.agg #[.slice (some ⟨g1,0,none⟩) es.length c1,.slice (some ⟨h1,0,none⟩) bs.length c2,.slice (some ⟨gq,0,none⟩) qs.length qk,.slice ta ts.length tk]) (by rintro s _ ⟨⟩;exact dk.sets_on _ (by simp) _ rfl) (fun s k' W hk' hS=>by have bb:=(rbo.sr_heap hS hg1 hg2).trans HBX.out.1;have q0:W.cell? ⟨w1.heap.size,0,none⟩=some (.slice (some ⟨g1,0,none⟩) es.length c1):=bcell bb rfl;have q1:W.cell? ⟨w1.heap.size,1,none⟩=some (.slice (some ⟨h1,0,none⟩) bs.length c2):=bcell bb rfl;have q2:W.cell? ⟨w1.heap.size,2,none⟩=some (.slice (some ⟨gq,0,none⟩) qs.length qk):=bcell bb rfl;have q3:W.cell? ⟨w1.heap.size,3,none⟩=some (.slice ta ts.length tk):=bcell bb rfl;simp [execOp,go_sem,Act.eval,dk.sets_get,List.lookup,q0,q1,q2,q3]),?_⟩
  refine⟨chn.quiet 2 rfl (by decide) (.inl rfl) (by simp) (fun s=>.agg #[.int .i64 Mq,.string Mx,.string Mk,.string Mb,.bool Ma]) (by rintro s _ ⟨⟩;exact dk.sets_on _ (by simp) _ rfl) (fun s k' W hk' hS=>by have bb:=(rbo.sr_heap hS hm1 hm2).trans HBX.out.2.1;have q0:W.cell? ⟨w4.heap.size+1,0,none⟩=some (.int .i64 Mq):=bcell bb rfl;have q1:W.cell? ⟨w4.heap.size+1,1,none⟩=some (.string Mx):=bcell bb rfl;have q2:W.cell? ⟨w4.heap.size+1,2,none⟩=some (.string Mk):=bcell bb rfl;have q3:W.cell? ⟨w4.heap.size+1,3,none⟩=some (.string Mb):=bcell bb rfl;have q4:W.cell? ⟨w4.heap.size+1,4,none⟩=some (.bool Ma):=bcell bb rfl;simp [execOp,go_sem,Act.eval,dk.sets_get,List.lookup,q0,q1,q2,q3,q4]),?_⟩
  refine⟨chn.quiet 2 rfl (by decide) (.inl rfl) (by simp) (fun s=>.bool GD) (by rintro s _ ⟨⟩;exact dk.sets_on _ (by simp) _ rfl) (fun s k' W hk' hS=>by simp [execOp,go_sem,Act.eval,dk.sets_get,List.lookup]),?_⟩
  refine⟨chn.sto 0 rfl (by decide) rfl (.inl rfl) (by simp) rfl ?sto0,?_⟩
  case sto0 =>
   intro s W hS
   have hW0:W=V2.drew:=hS
   have bb:W.heap[w.heap.size+1]?=some (.cells #[.slice none 0 0,.slice none 0 0,.slice none 0 0,.slice none 0 0] 39 (0,0)):=by rw [hW0];exact HBX.out.2.2.1
   have q0:W.cell? ⟨w.heap.size+1,0,none⟩=some (.slice none 0 0):=bcell bb rfl
   have r0:=bfree bb 0
   have q1:W.cell? ⟨w.heap.size+1,1,none⟩=some (.slice none 0 0):=bcell bb rfl
   have r1:=bfree bb 1
   have q2:W.cell? ⟨w.heap.size+1,2,none⟩=some (.slice none 0 0):=bcell bb rfl
   have r2:=bfree bb 2
   have q3:W.cell? ⟨w.heap.size+1,3,none⟩=some (.slice none 0 0):=bcell bb rfl
   have r3:=bfree bb 3
   exact⟨_,by simp [execOp,go_sem,Act.eval,dk.sets_get,List.lookup,q0,r0,q1,r1,q2,r2,q3,r3],(show rbo.Sr V2 (w.heap.size+1) (w.heap.size+2) (.slice (some ⟨g1,0,none⟩) es.length c1) (.slice (some ⟨h1,0,none⟩) bs.length c2) (.slice (some ⟨gq,0,none⟩) qs.length qk) (.slice ta ts.length tk) (.int .i64 Mq) (.string Mx) (.string Mk) (.string Mb) (.bool Ma) s 1 ((((W.setCell ⟨w.heap.size+1,0,none⟩ (.slice (some ⟨g1,0,none⟩) es.length c1)).setCell ⟨w.heap.size+1,1,none⟩ (.slice (some ⟨h1,0,none⟩) bs.length c2)).setCell ⟨w.heap.size+1,2,none⟩ (.slice (some ⟨gq,0,none⟩) qs.length qk)).setCell ⟨w.heap.size+1,3,none⟩ (.slice ta ts.length tk)) by rw [hW0];rfl)⟩
  refine⟨chn.sto 1 rfl (by decide) rfl (.inr ⟨⟨3,.chain⟩,by simp,rfl,rfl⟩) (by simp) rfl ?sto1,?_⟩
  case sto1 =>
   intro s W hS
   have hW0:W=rbo.wr4 V2.drew (w.heap.size+1) (.slice (some ⟨g1,0,none⟩) es.length c1) (.slice (some ⟨h1,0,none⟩) bs.length c2) (.slice (some ⟨gq,0,none⟩) qs.length qk) (.slice ta ts.length tk):=hS
   have bb:W.heap[w.heap.size+2]?=some (.cells #[.int .i64 0,.string ⟨#[]⟩,.string ⟨#[]⟩,.string ⟨#[]⟩,.bool false] 48 (0,0)):=by rw [hW0,rbo.wr4_heap (by omega)];exact HBX.out.2.2.2
   have q0:W.cell? ⟨w.heap.size+2,0,none⟩=some (.int .i64 0):=bcell bb rfl
   have r0:=bfree bb 0
   have q1:W.cell? ⟨w.heap.size+2,1,none⟩=some (.string ⟨#[]⟩):=bcell bb rfl
   have r1:=bfree bb 1
   have q2:W.cell? ⟨w.heap.size+2,2,none⟩=some (.string ⟨#[]⟩):=bcell bb rfl
   have r2:=bfree bb 2
   have q3:W.cell? ⟨w.heap.size+2,3,none⟩=some (.string ⟨#[]⟩):=bcell bb rfl
   have r3:=bfree bb 3
   have q4:W.cell? ⟨w.heap.size+2,4,none⟩=some (.bool false):=bcell bb rfl
   have r4:=bfree bb 4
   exact⟨_,by simp [execOp,go_sem,Act.eval,dk.sets_get,List.lookup,q0,r0,q1,r1,q2,r2,q3,r3,q4,r4],(show rbo.Sr V2 (w.heap.size+1) (w.heap.size+2) (.slice (some ⟨g1,0,none⟩) es.length c1) (.slice (some ⟨h1,0,none⟩) bs.length c2) (.slice (some ⟨gq,0,none⟩) qs.length qk) (.slice ta ts.length tk) (.int .i64 Mq) (.string Mx) (.string Mk) (.string Mb) (.bool Ma) s 2 (((((W.setCell ⟨w.heap.size+2,0,none⟩ (.int .i64 Mq)).setCell ⟨w.heap.size+2,1,none⟩ (.string Mx)).setCell ⟨w.heap.size+2,2,none⟩ (.string Mk)).setCell ⟨w.heap.size+2,3,none⟩ (.string Mb)).setCell ⟨w.heap.size+2,4,none⟩ (.bool Ma)) by rw [hW0];rfl)⟩
  refine⟨chn.quiet 2 rfl (by decide) (.inl rfl) (by simp) (fun s=>.bool GD) (by rintro s _ ⟨⟩;exact dk.sets_on _ (by simp) _ rfl) (fun s k' W hk' hS=>by simp [execOp,go_sem,Act.eval,dk.sets_get,List.lookup]),trivial⟩
 case fin =>
  intro s W hS
  have hW0:W=rbo.wr5 (rbo.wr4 V2.drew (w.heap.size+1) (.slice (some ⟨g1,0,none⟩) es.length c1) (.slice (some ⟨h1,0,none⟩) bs.length c2) (.slice (some ⟨gq,0,none⟩) qs.length qk) (.slice ta ts.length tk)) (w.heap.size+2) (.int .i64 Mq) (.string Mx) (.string Mk) (.string Mb) (.bool Ma):=hS
  subst hW0
  simp only [dk.sets,rbo.wr4,rbo.wr5]
  clear hS
  go_wp2
  refine bodyPost_ret (v:=.tuple #[.agg #[.slice (some ⟨g1,0,none⟩) es.length c1,.slice (some ⟨h1,0,none⟩) bs.length c2,.slice (some ⟨gq,0,none⟩) qs.length qk,.slice ta ts.length tk],.agg #[.int .i64 Mq,.string Mx,.string Mk,.string Mb,.bool Ma],.bool GD]) (by simp [results,Tryz.results19,go_sem,z0,z1,z2,z3,y0,y1,y2,y3,y4]) rfl (HPO.out _ _ ⟨some ⟨g1,0,none⟩,some ⟨h1,0,none⟩,some ⟨gq,0,none⟩,ta,c1,c2,qk,tk,_,_,by rw [List.length_set,(HAN.out ()).1,(HAN.out ()).2],HFN.out _ ?_⟩)
  repeat' (first | apply fo.Tn.set | exact fo.Tn.of _ (Below.drew (Below.refl _ _)) | exact fo.Tn.refl _ _ | (show _ ∨ _;omega))
end Go.Proofs.YteoojodkkjepeaaGreat.gsp
