/- CoreLib. -/
import Derived.Test.YtaoefccgdfcchaaGreatKq15
import Derived.Test.YtaoefccgdfcchaaGreatKq14
set_option maxRecDepth 100000
set_option maxHeartbeats 8000000
set_option linter.unusedVariables false
namespace Go.Proofs.YtaoefccgdfcchaaGreat.co
open ChangeShapes WideShapes ChangeAt RowKit rr ra rt rl fl
theorem sz_routes (es:List Ex) (bs:List Bi) (ea ba:Option Addr) (ec bc:Nat) (w:World) (hel:es.length <= maxLen) (hbl:bs.length <= maxLen) (hes:∀ e ∈ es,e.n.size <= maxLen) (hbs:∀ e ∈ bs,e.x.size <= maxLen/\e.k.size <= maxLen/\e.q.size <= maxLen) (hE:SE w w.heap.size ea es) (hB:SB w w.heap.size ba bs) :
  Calls Tryz.prog 11 #[.agg #[.slice ea es.length ec,.slice ba bs.length bc],.int .i64 1048576] w fun e w'=>∃ r:Int,e=.returned (.int .i64 r)/\(0 <= r->r=1048576 - es.length - bulkE es - bs.length - bulkB bs)/\-1 <= r/\r <= 1048576/\Below w.heap.size w w':=by
 have hb:=fl.bl w (.cells #[.slice ea es.length ec,.slice ba bs.length bc] 25)
 have hA:=heap_alloc_new w (.cells #[.slice ea es.length ec,.slice ba bs.length bc] 25)
 obtain ⟨W,hW⟩:∃ W,w.alloc (.cells #[.slice ea es.length ec,.slice ba bs.length bc] 25)=W:=⟨_,rfl⟩
 rw [hW] at hb hA
 have he:=sz_allE es ea ec 1048576 W hel hes (by omega) (by omega) (SE.inn hE hb)
 have HB3:Hid (SB W W.heap.size ba bs):=SB.inn hB hb
 have x0:W.cell? ⟨w.heap.size,0,none⟩=some (.slice ea es.length ec):=by simp [World.cell?,hA]
 have HA:Hid (W.heap[w.heap.size]?=some (.cells #[.slice ea es.length ec,.slice ba bs.length bc] 25 (0,0))):=hA
 have la:=(Array.getElem?_eq_some_iff.1 hA).1
 have HBS:Hid (∀ e ∈ bs,e.x.size <= maxLen/\e.k.size <= maxLen/\e.q.size <= maxLen):=hbs
 clear hE hB hA hes hbs
 go_enter Tryz.func11,Tryz.ntmps11
 go_wp2_with (go_at_call 37; fail)
 refine he.mono ?_
 rintro e w1 ⟨r,rfl,hr,hr0,hr1,hb1⟩
 clear hW x0
 by_cases hneg:r < 0
 ·go_wp2
  go_ret
  exact ⟨-1,rfl,by omega,by omega,by omega,hb.trans (hb1.mono hb.size)⟩
 ·have x1:w1.cell? ⟨w.heap.size,1,none⟩=some (.slice ba bs.length bc):=by
   have:=(hb1.block w.heap.size la).trans HA.out
   simp [World.cell?,this]
  have hq:=sz_allB bs ba bc r w1 hbl HBS.out (by omega) (by omega) (SB.inn HB3.out hb1)
  have HR:Hid (r=1048576 - es.length - bulkE es):=hr (by omega)
  clear he hr
  go_wp2_with (go_at_call 38; fail)
  refine hq.mono ?_
  rintro e w2 ⟨r2,rfl,hr2,hr20,hr21,hb2⟩
  have hfin:Below w.heap.size w w2:=hb.trans ((hb1.trans (hb2.mono hb1.size)).mono hb.size)
  have HR2:Hid (0 <= r2->r2=r - bs.length - bulkB bs):=hr2
  clear hq hr2
  by_cases hneg2:r2 < 0
  ·go_wp2
   go_ret
   exact ⟨-1,rfl,by omega,by omega,by omega,hfin⟩
  ·go_wp2
   go_ret
   exact ⟨r2,rfl,fun h=>by have h1:=HR2.out h; have h2:=HR.out; omega,by omega,by omega,hfin⟩
theorem sz_core (es:List Ex) (bs:List Bi) (qs:List qu.E) (ts:List su.E) (ea ba qa ta:Option Addr) (ec bc qc tc:Nat) (w:World) (hel:es.length <= maxLen) (hbl:bs.length <= maxLen) (hql:qs.length <= maxLen) (htl:ts.length <= maxLen) (hes:∀ e ∈ es,e.n.size <= maxLen) (hbs:∀ e ∈ bs,e.x.size <= maxLen/\e.k.size <= maxLen/\e.q.size <= maxLen) (hqo:∀ e ∈ qs,qu.ok e) (hto:∀ e ∈ ts,su.ok e) (hE:SE w w.heap.size ea es) (hB:SB w w.heap.size ba bs) (hQ:qu.V w w.heap.size qa qs) (hT:su.V w w.heap.size ta ts) :
  Calls Tryz.prog 4 #[.agg #[.slice ea es.length ec,.slice ba bs.length bc,.slice qa qs.length qc,.slice ta ts.length tc],.int .i64 1048576] w fun e w'=>∃ r:Int,e=.returned (.int .i64 r)/\(0 <= r->es.length+bulkE es+bs.length+bulkB bs+qs.length+bulk qu.wt qs+ts.length+bulk su.wt ts <= 1048576)/\Below w.heap.size w w':=by
 have hb:=fl.bl w (.cells #[.slice ea es.length ec,.slice ba bs.length bc,.slice qa qs.length qc,.slice ta ts.length tc] 29)
 have hA:=bnew w #[.slice ea es.length ec,.slice ba bs.length bc,.slice qa qs.length qc,.slice ta ts.length tc] 29
 obtain ⟨W,hW⟩:∃ W,w.alloc (.cells #[.slice ea es.length ec,.slice ba bs.length bc,.slice qa qs.length qc,.slice ta ts.length tc] 29)=W:=⟨_,rfl⟩
 rw [hW] at hb hA
 have he:=sz_routes es bs ea ba ec bc W hel hbl hes hbs (SE.inn hE hb) (SB.inn hB hb)
 have HQ:Hid (qu.V W W.heap.size qa qs):=hQ.inn hb
 have HT:Hid (su.V W W.heap.size ta ts):=hT.inn hb
 have HQO:Hid (∀ e ∈ qs,qu.ok e):=hqo
 have HTO:Hid (∀ e ∈ ts,su.ok e):=hto
 have x0:W.cell? ⟨w.heap.size,0,none⟩=some (.slice ea es.length ec):=bcell hA rfl
 have x1:W.cell? ⟨w.heap.size,1,none⟩=some (.slice ba bs.length bc):=bcell hA rfl
 have HA:Hid (W.heap[w.heap.size]?=some (.cells #[.slice ea es.length ec,.slice ba bs.length bc,.slice qa qs.length qc,.slice ta ts.length tc] 29 (0,0))):=hA
 have la:=(Array.getElem?_eq_some_iff.1 hA).1
 clear hE hB hQ hT hA hes hbs hqo hto
 go_enter Tryz.func4,Tryz.ntmps4
 go_wp2_with (go_at_call 11; fail)
 refine he.mono ?_
 rintro e w1 ⟨r,rfl,hr,hr0,hr1,hb1⟩
 clear hW x0 x1
 by_cases hneg:r < 0
 ·go_wp2
  go_ret
  exact ⟨-1,rfl,by omega,hb.trans (hb1.mono hb.size)⟩
 ·have x2:w1.cell? ⟨w.heap.size,2,none⟩=some (.slice qa qs.length qc):=bcell (bstay HA.out hb1 la) rfl
  have hq:=qu.sz_all qs qa qc r w1 hql HQO.out (by omega) (by omega) (HQ.out.inn hb1)
  have HR:Hid (r=1048576 - es.length - bulkE es - bs.length - bulkB bs):=hr (by omega)
  clear he hr
  go_wp2_with (go_at_call 12; fail)
  refine hq.mono ?_
  rintro e w2 ⟨r2,rfl,hr2,hr20,hr21,hb2⟩
  have hb12:=fl.bt hb1 hb2
  have HR2:Hid (0 <= r2->r2=r - qs.length - bulk qu.wt qs):=hr2
  clear hq hr2 x2
  by_cases hneg2:r2 < 0
  ·go_wp2
   go_ret
   exact ⟨-1,rfl,by omega,hb.trans (hb12.mono hb.size)⟩
  ·have x3:w2.cell? ⟨w.heap.size,3,none⟩=some (.slice ta ts.length tc):=bcell (bstay HA.out hb12 la) rfl
   have hq:=su.sz_all ts ta tc r2 w2 htl HTO.out (by omega) (by omega) (HT.out.inn hb12)
   go_wp2_with (go_at_call 13; fail)
   refine hq.mono ?_
   rintro e w3 ⟨r3,rfl,hr3,hr30,hr31,hb3⟩
   have hfin:Below w.heap.size w w3:=hb.trans ((hb12.trans (hb3.mono hb12.size)).mono hb.size)
   have HR3:Hid (0 <= r3->r3=r2 - ts.length - bulk su.wt ts):=hr3
   clear hq hr3 x3
   by_cases hneg3:r3 < 0
   ·go_wp2
    go_ret
    exact ⟨-1,rfl,by omega,hfin⟩
   ·go_wp2
    go_ret
    exact ⟨r3,rfl,fun h=>by have h1:=HR3.out h; have h2:=HR2.out (by omega); have h3:=HR.out; omega,hfin⟩
theorem eq_core (es:List Ex) (bs:List Bi) (qs qs':List qu.E) (ts ts':List su.E) (ea ba qa ta ea' ba' qa' ta':Option Addr) (ec bc qc tc ec' bc' qc' tc':Nat) (w:World) (hel:es.length <= 1048576) (hbl:bs.length <= 1048576) (hql:qs.length <= maxLen) (htl:ts.length <= maxLen) (hqx:∀ e ∈ qs,e.rs.length <= maxLen/\e.hs.length <= maxLen) (htx:∀ e ∈ ts,e.rs.length <= maxLen/\e.hs.length <= maxLen)
  (hqq:qs'.length=qs.length) (htt:ts'.length=ts.length) (hqs:∀ (k:Nat) (r s:qu.E),qs[k]?=some r->qs'[k]?=some s->qu.same r s) (hts:∀ (k:Nat) (r s:su.E),ts[k]?=some r->ts'[k]?=some s->su.same r s)
  (h1:SE w w.heap.size ea es) (h2:SE w w.heap.size ea' es) (h3:SB w w.heap.size ba bs) (h4:SB w w.heap.size ba' bs) (h5:qu.V w w.heap.size qa qs) (h6:qu.V w w.heap.size qa' qs') (h7:su.V w w.heap.size ta ts) (h8:su.V w w.heap.size ta' ts') :
  Calls Tryz.prog 8 #[.agg #[.slice ea es.length ec,.slice ba bs.length bc,.slice qa qs.length qc,.slice ta ts.length tc],.agg #[.slice ea' es.length ec',.slice ba' bs.length bc',.slice qa' qs.length qc',.slice ta' ts.length tc']] w fun e w'=>e=.returned (.bool true)/\Below w.heap.size w w':=by
 obtain ⟨W,hW,hb,hA,hB,_⟩:=fl.bx2 w #[.slice ea es.length ec,.slice ba bs.length bc,.slice qa qs.length qc,.slice ta ts.length tc] #[.slice ea' es.length ec',.slice ba' bs.length bc',.slice qa' qs.length qc',.slice ta' ts.length tc'] 38 38
 have he:=re.eq_routes es bs ea ea' ba ba' ec ec' bc bc' W hel hbl (SE.inn h1 hb) (SE.inn h2 hb) (SB.inn h3 hb) (SB.inn h4 hb)
 have H5:Hid (qu.V W W.heap.size qa qs):=h5.inn hb
 have H6:Hid (qu.V W W.heap.size qa' qs'):=h6.inn hb
 have H7:Hid (su.V W W.heap.size ta ts):=h7.inn hb
 have H8:Hid (su.V W W.heap.size ta' ts'):=h8.inn hb
 have HX:Hid ((∀ e ∈ qs,e.rs.length <= maxLen/\e.hs.length <= maxLen)/\(∀ e ∈ ts,e.rs.length <= maxLen/\e.hs.length <= maxLen)):=⟨hqx,htx⟩
 have HS:Hid ((∀ (k:Nat) (r s:qu.E),qs[k]?=some r->qs'[k]?=some s->qu.same r s)/\(∀ (k:Nat) (r s:su.E),ts[k]?=some r->ts'[k]?=some s->su.same r s)):=⟨hqs,hts⟩
 have HL:Hid (qs'.length=qs.length/\ts'.length=ts.length):=⟨hqq,htt⟩
 have x0:W.cell? ⟨w.heap.size,0,none⟩=some (.slice ea es.length ec):=bcell hA rfl
 have x1:W.cell? ⟨w.heap.size,1,none⟩=some (.slice ba bs.length bc):=bcell hA rfl
 have y0:W.cell? ⟨w.heap.size+1,0,none⟩=some (.slice ea' es.length ec'):=bcell hB rfl
 have y1:W.cell? ⟨w.heap.size+1,1,none⟩=some (.slice ba' bs.length bc'):=bcell hB rfl
 have HA:Hid (W.heap[w.heap.size]?=some (.cells #[.slice ea es.length ec,.slice ba bs.length bc,.slice qa qs.length qc,.slice ta ts.length tc] 38 (0,0))):=hA
 have HBB:Hid (W.heap[w.heap.size+1]?=some (.cells #[.slice ea' es.length ec',.slice ba' bs.length bc',.slice qa' qs.length qc',.slice ta' ts.length tc'] 38 (0,0))):=hB
 have la:=(Array.getElem?_eq_some_iff.1 hA).1
 have lb:=(Array.getElem?_eq_some_iff.1 hB).1
 clear h1 h2 h3 h4 h5 h6 h7 h8 hA hB hqx htx hqs hts hqq htt
 go_enter Tryz.func8,Tryz.ntmps8
 go_wp2_with (go_at_call 28; fail)
 refine he.mono ?_
 rintro e w1 ⟨rfl,hb1⟩
 have x2:w1.cell? ⟨w.heap.size,2,none⟩=some (.slice qa qs.length qc):=bcell (bstay HA.out hb1 la) rfl
 have y2:w1.cell? ⟨w.heap.size+1,2,none⟩=some (.slice qa' qs.length qc'):=bcell (bstay HBB.out hb1 lb) rfl
 have hq:=qu.eq_all qs qs' qa qa' qc qc' w1 hql HX.out.1 HL.out.1 HS.out.1 (H5.out.inn hb1) (H6.out.inn hb1)
 clear he x0 x1 y0 y1 hW
 go_wp2_with (go_at_call 29; fail)
 refine hq.mono ?_
 rintro e w2 ⟨rfl,hb2⟩
 have hb12:=fl.bt hb1 hb2
 have x3:w2.cell? ⟨w.heap.size,3,none⟩=some (.slice ta ts.length tc):=bcell (bstay HA.out hb12 la) rfl
 have y3:w2.cell? ⟨w.heap.size+1,3,none⟩=some (.slice ta' ts.length tc'):=bcell (bstay HBB.out hb12 lb) rfl
 have hq2:=su.eq_all ts ts' ta ta' tc tc' w2 htl HX.out.2 HL.out.2 HS.out.2 (H7.out.inn hb12) (H8.out.inn hb12)
 clear hq x2 y2
 go_wp2_with (go_at_call 30; fail)
 refine hq2.mono ?_
 rintro e w3 ⟨rfl,hb3⟩
 have hfin:Below w.heap.size w w3:=hb.trans ((hb12.trans (hb3.mono hb12.size)).mono hb.size)
 clear hq2 x3 y3
 go_wp2
 go_ret
 exact ⟨rfl,hfin⟩
structure Co (w:World) (B:Nat) (es:List Ex) (bs:List Bi) (qs:List qu.E) (ts:List su.E) (ge gb gq gt:Nat) (ks:List qu.E) (us:List su.E):Prop where
 he:FE w ge es es.length
 hb:FB w gb bs bs.length
 hq:qu.So w (gq+1) gq qs ks qs.length
 ht:su.So w (gt+1) gt ts us ts.length
 be:B <= ge
 bb:B <= gb
 eb:ge ≠ gb
 eq:ge < gq/\gb < gq
 qt:gq < gt
 qd:∀ (j:Nat) (r:qu.E),ks[j]?=some r->∀ b o,(r.ra=some ⟨b,o,none⟩ ∨ r.ha=some ⟨b,o,none⟩)->b < gt
section
variable {w w':World} {B ge gb gq gt:Nat} {es:List Ex} {bs:List Bi} {qs ks:List qu.E} {ts us:List su.E}
theorem Co.below (h:Co w B es bs qs ts ge gb gq gt ks us) (hb:Below w.heap.size w w'):Co w' B es bs qs ts ge gb gq gt ks us:=⟨h.he.below hb h.he.lt,h.hb.below hb h.hb.lt,h.hq.below hb,h.ht.below hb,h.be,h.bb,h.eb,h.eq,h.qt,h.qd⟩
theorem Co.rows (h:Co w B es bs qs ts ge gb gq gt ks us):RE w ge es/\RB w gb bs/\qu.V w w.heap.size (some ⟨gq,0,none⟩) ks/\su.V w w.heap.size (some ⟨gt,0,none⟩) us:=⟨h.he.all,h.hb.all,h.hq.v,h.ht.v⟩
end
structure Cg (w:World) (B:Nat) (es:List Ex) (bs:List Bi) (qs:List qu.E) (ts:List su.E) (ge gb gq gt:Nat) (ks:List qu.E) (us:List su.E):Prop where
 he:FE w ge es es.length
 hb:FB w gb bs bs.length
 hq:qu.So w B gq qs ks qs.length
 ht:su.So w B gt ts us ts.length
 be:B <= ge
 bb:B <= gb
 bq:B <= gq
 bt:B <= gt
 eb:ge ≠ gb
section
variable {w w':World} {B ge gb gq gt:Nat} {es:List Ex} {bs:List Bi} {qs ks:List qu.E} {ts us:List su.E}
theorem Co.g (h:Co w B es bs qs ts ge gb gq gt ks us):Cg w B es bs qs ts ge gb gq gt ks us:=by
 have h1:=h.be
 have h2:=h.eq
 have h3:=h.qt
 exact ⟨h.he,h.hb,h.hq.mono (by omega),h.ht.mono (by omega),h.be,h.bb,by omega,by omega,h.eb⟩
theorem Cg.below (h:Cg w B es bs qs ts ge gb gq gt ks us) (hb:Below w.heap.size w w'):Cg w' B es bs qs ts ge gb gq gt ks us:=⟨h.he.below hb h.he.lt,h.hb.below hb h.hb.lt,h.hq.below hb,h.ht.below hb,h.be,h.bb,h.bq,h.bt,h.eb⟩
theorem Cg.rows (h:Cg w B es bs qs ts ge gb gq gt ks us):RE w ge es/\RB w gb bs/\qu.V w w.heap.size (some ⟨gq,0,none⟩) ks/\su.V w w.heap.size (some ⟨gt,0,none⟩) us:=⟨h.he.all,h.hb.all,h.hq.v,h.ht.v⟩
end
theorem se_re {w:World} {g:Nat} {l:List Ex} (h:RE w g l):SE w w.heap.size (some ⟨g,0,none⟩) l:=.inr ⟨g,0,rfl,h.1,fun i e he=>by have:=h.2 i e he; simpa using this⟩
theorem sb_rb {w:World} {g:Nat} {l:List Bi} (h:RB w g l):SB w w.heap.size (some ⟨g,0,none⟩) l:=.inr ⟨g,0,rfl,h.1,fun i e he=>by have:=h.2 i e he; simpa using this⟩
theorem mine_lt {w:World} {B:Nat} {r:qu.E} (m:qu.Mine w B r):∀ b o,(r.ra=some ⟨b,o,none⟩ ∨ r.ha=some ⟨b,o,none⟩)->b < w.heap.size:=by
 obtain ⟨g,h,h1,h2,_,_,_,h5,h6,_⟩:=m
 rintro b o (e | e)
 ·rw [h1] at e; cases e; exact h5.lt
 ·rw [h2] at e; cases e; exact h6.lt
theorem to_core (es:List Ex) (bs:List Bi) (qs:List qu.E) (ts:List su.E) (ea ba qa ta:Option Addr) (ec bc qc tc:Nat) (w:World) (hel:es.length <= 1048576) (hbl:bs.length <= 1048576) (hql:qs.length <= 1048576) (htl:ts.length <= 1048576) (hqx:∀ e ∈ qs,e.rs.length <= 1048576/\e.hs.length <= 1048576) (htx:∀ e ∈ ts,e.rs.length <= 1048576/\e.hs.length <= 1048576) (hE:SE w w.heap.size ea es) (hB:SB w w.heap.size ba bs) (hQ:qu.V w w.heap.size qa qs) (hT:su.V w w.heap.size ta ts) :
  Calls Tryz.prog 6 #[.agg #[.slice ea es.length ec,.slice ba bs.length bc,.slice qa qs.length qc,.slice ta ts.length tc]] w fun e w'=>∃ ge gb gq gt ks us,e=.returned (.agg #[.slice (some ⟨ge,0,none⟩) es.length es.length,.slice (some ⟨gb,0,none⟩) bs.length bs.length,.slice (some ⟨gq,0,none⟩) qs.length qs.length,.slice (some ⟨gt,0,none⟩) ts.length ts.length])/\Co w' w.heap.size es bs qs ts ge gb gq gt ks us/\Below w.heap.size w w':=by
 have hb:Below w.heap.size w (((w.alloc (.cells #[.slice ea es.length ec,.slice ba bs.length bc,.slice qa qs.length qc,.slice ta ts.length tc] 29)).alloc (.cells #[.slice none 0 0,.slice none 0 0,.slice none 0 0,.slice none 0 0] 38)).alloc (.cells #[.slice none 0 0,.slice none 0 0,.slice none 0 0,.slice none 0 0] 38)):=(((Below.refl _ _).alloc (Nat.le_refl _) _).alloc (by simp) _).alloc (by simp; omega) _
 have hA:=bold (bold (bnew w #[.slice ea es.length ec,.slice ba bs.length bc,.slice qa qs.length qc,.slice ta ts.length tc] 29) (.cells #[.slice none 0 0,.slice none 0 0,.slice none 0 0,.slice none 0 0] 38)) (.cells #[.slice none 0 0,.slice none 0 0,.slice none 0 0,.slice none 0 0] 38)
 have hRr:=bold (bnew (w.alloc (.cells #[.slice ea es.length ec,.slice ba bs.length bc,.slice qa qs.length qc,.slice ta ts.length tc] 29)) #[.slice none 0 0,.slice none 0 0,.slice none 0 0,.slice none 0 0] 38) (.cells #[.slice none 0 0,.slice none 0 0,.slice none 0 0,.slice none 0 0] 38)
 have hO:=bnew ((w.alloc (.cells #[.slice ea es.length ec,.slice ba bs.length bc,.slice qa qs.length qc,.slice ta ts.length tc] 29)).alloc (.cells #[.slice none 0 0,.slice none 0 0,.slice none 0 0,.slice none 0 0] 38)) #[.slice none 0 0,.slice none 0 0,.slice none 0 0,.slice none 0 0] 38
 rw [World.size_alloc] at hRr
 rw [World.size_alloc,World.size_alloc] at hO
 have hS:(((w.alloc (.cells #[.slice ea es.length ec,.slice ba bs.length bc,.slice qa qs.length qc,.slice ta ts.length tc] 29)).alloc (.cells #[.slice none 0 0,.slice none 0 0,.slice none 0 0,.slice none 0 0] 38)).alloc (.cells #[.slice none 0 0,.slice none 0 0,.slice none 0 0,.slice none 0 0] 38)).heap.size=w.heap.size+3:=by simp
 obtain ⟨W,hW⟩:∃ W,((w.alloc (.cells #[.slice ea es.length ec,.slice ba bs.length bc,.slice qa qs.length qc,.slice ta ts.length tc] 29)).alloc (.cells #[.slice none 0 0,.slice none 0 0,.slice none 0 0,.slice none 0 0] 38)).alloc (.cells #[.slice none 0 0,.slice none 0 0,.slice none 0 0,.slice none 0 0] 38)=W:=⟨_,rfl⟩
 rw [hW] at hb hA hRr hO hS
 have he:=ro2.to_routes es bs ea ba ec bc W hel hbl (SE.inn hE hb) (SB.inn hB hb)
 have hS3:w.heap.size+3 <= W.heap.size:=by omega
 have HQ:Hid (qu.V w w.heap.size qa qs):=hQ
 have HT:Hid (su.V w w.heap.size ta ts):=hT
 have HQX:Hid (∀ e ∈ qs,e.rs.length <= 1048576/\e.hs.length <= 1048576):=hqx
 have HTX:Hid (∀ e ∈ ts,e.rs.length <= 1048576/\e.hs.length <= 1048576):=htx
 have x0:W.cell? ⟨w.heap.size,0,none⟩=some (.slice ea es.length ec):=bcell hA rfl
 have x1:W.cell? ⟨w.heap.size,1,none⟩=some (.slice ba bs.length bc):=bcell hA rfl
 have HA:Hid (W.heap[w.heap.size]?=some (.cells #[.slice ea es.length ec,.slice ba bs.length bc,.slice qa qs.length qc,.slice ta ts.length tc] 29 (0,0))):=hA
 have HR:Hid (W.heap[w.heap.size+1]?=some (.cells #[.slice none 0 0,.slice none 0 0,.slice none 0 0,.slice none 0 0] 38 (0,0))):=hRr
 have HO:Hid (W.heap[w.heap.size+1+1]?=some (.cells #[.slice none 0 0,.slice none 0 0,.slice none 0 0,.slice none 0 0] 38 (0,0))):=hO
 clear hE hB hQ hT hA hRr hO hS hqx htx
 go_enter Tryz.func6,Tryz.ntmps6
 go_wp2_with (go_at_call 18; fail)
 refine he.mono ?_
 rintro e w1 ⟨ge,gb,rfl,hge,hgb,hne,fe,fb,hb1⟩
 clear hW he
 have hs1:=hb1.size
 have hgel:=fe.lt
 have hgbl:=fb.lt
 have o1:=bstay HO.out hb1 (by omega)
 have u0:w1.cell? ⟨w.heap.size+1+1,0,none⟩=some (.slice none 0 0):=bcell o1 rfl
 have u1:w1.cell? ⟨w.heap.size+1+1,1,none⟩=some (.slice none 0 0):=bcell o1 rfl
 have uf0:=bfree o1 0
 have uf1:=bfree o1 1
 have o2:=bset (bset o1 0 (.slice (some ⟨ge,0,none⟩) es.length es.length)) 1 (.slice (some ⟨gb,0,none⟩) bs.length bs.length)
 have a2:=boff (boff (bstay HA.out hb1 (by omega)) (w.heap.size+1+1) 0 (.slice (some ⟨ge,0,none⟩) es.length es.length) (by omega)) (w.heap.size+1+1) 1 (.slice (some ⟨gb,0,none⟩) bs.length bs.length) (by omega)
 have r2:=boff (boff (bstay HR.out hb1 (by omega)) (w.heap.size+1+1) 0 (.slice (some ⟨ge,0,none⟩) es.length es.length) (by omega)) (w.heap.size+1+1) 1 (.slice (some ⟨gb,0,none⟩) bs.length bs.length) (by omega)
 have hbw2:Below w.heap.size w ((w1.setCell ⟨w.heap.size+1+1,0,none⟩ (.slice (some ⟨ge,0,none⟩) es.length es.length)).setCell ⟨w.heap.size+1+1,1,none⟩ (.slice (some ⟨gb,0,none⟩) bs.length bs.length)):=((hb.trans (hb1.mono (by omega))).setCell (by show w.heap.size <= w.heap.size+1+1; omega) _).setCell (by show w.heap.size <= w.heap.size+1+1; omega) _
 have fe2:FE ((w1.setCell ⟨w.heap.size+1+1,0,none⟩ (.slice (some ⟨ge,0,none⟩) es.length es.length)).setCell ⟨w.heap.size+1+1,1,none⟩ (.slice (some ⟨gb,0,none⟩) bs.length bs.length)) ge es es.length:=ro2.keptE (ro2.keptE fe (Below.heap_setCell w1 _ _ _ (by show ge ≠ w.heap.size+1+1; omega))) (Below.heap_setCell _ _ _ _ (by show ge ≠ w.heap.size+1+1; omega))
 have fb2:FB ((w1.setCell ⟨w.heap.size+1+1,0,none⟩ (.slice (some ⟨ge,0,none⟩) es.length es.length)).setCell ⟨w.heap.size+1+1,1,none⟩ (.slice (some ⟨gb,0,none⟩) bs.length bs.length)) gb bs bs.length:=ro2.keptB (ro2.keptB fb (Below.heap_setCell w1 _ _ _ (by show gb ≠ w.heap.size+1+1; omega))) (Below.heap_setCell _ _ _ _ (by show gb ≠ w.heap.size+1+1; omega))
 have hsz2:((w1.setCell ⟨w.heap.size+1+1,0,none⟩ (.slice (some ⟨ge,0,none⟩) es.length es.length)).setCell ⟨w.heap.size+1+1,1,none⟩ (.slice (some ⟨gb,0,none⟩) bs.length bs.length)).heap.size=w1.heap.size:=by simp
 obtain ⟨W2,hW2⟩:∃ W2,(w1.setCell ⟨w.heap.size+1+1,0,none⟩ (.slice (some ⟨ge,0,none⟩) es.length es.length)).setCell ⟨w.heap.size+1+1,1,none⟩ (.slice (some ⟨gb,0,none⟩) bs.length bs.length)=W2:=⟨_,rfl⟩
 rw [hW2] at o2 a2 r2 hbw2 fe2 fb2 hsz2
 have hq:=qu.to_all qs qa qc W2 hql HQX.out (HQ.out.inn hbw2)
 have c2:W2.cell? ⟨w.heap.size,2,none⟩=some (.slice qa qs.length qc):=bcell a2 rfl
 have HO2:Hid (W2.heap[w.heap.size+1+1]?=some (.cells #[.slice (some ⟨ge,0,none⟩) es.length es.length,.slice (some ⟨gb,0,none⟩) bs.length bs.length,.slice none 0 0,.slice none 0 0] 38 (0,0))):=o2
 have HA2:Hid (W2.heap[w.heap.size]?=some (.cells #[.slice ea es.length ec,.slice ba bs.length bc,.slice qa qs.length qc,.slice ta ts.length tc] 29 (0,0))):=a2
 have HR2:Hid (W2.heap[w.heap.size+1]?=some (.cells #[.slice none 0 0,.slice none 0 0,.slice none 0 0,.slice none 0 0] 38 (0,0))):=r2
 have HFE:Hid (FE W2 ge es es.length/\FB W2 gb bs bs.length):=⟨fe2,fb2⟩
 have hl2:w.heap.size+3 <= W2.heap.size:=by omega
 have hge2:ge < W2.heap.size:=by omega
 have hgb2:gb < W2.heap.size:=by omega
 clear hsz2
 clear x0 x1 fe fb fe2 fb2 o1 o2 a2 r2
 go_wp2_with (go_at_call 19; fail)
 clear hW2 uf0 uf1 u0 u1
 refine hq.mono ?_
 rintro e w3 ⟨ks,rfl,hso,hb3⟩
 have hs3:=hb3.size
 have hql3:W2.heap.size < w3.heap.size:=hso.own.lt
 have o3:=bstay HO2.out hb3 (by omega)
 have u2:w3.cell? ⟨w.heap.size+1+1,2,none⟩=some (.slice none 0 0):=bcell o3 rfl
 have uf2:=bfree o3 2
 have o4:=bset o3 2 (.slice (some ⟨W2.heap.size,0,none⟩) qs.length qs.length)
 have a4:=boff (bstay HA2.out hb3 (by omega)) (w.heap.size+1+1) 2 (.slice (some ⟨W2.heap.size,0,none⟩) qs.length qs.length) (by omega)
 have r4:=boff (bstay HR2.out hb3 (by omega)) (w.heap.size+1+1) 2 (.slice (some ⟨W2.heap.size,0,none⟩) qs.length qs.length) (by omega)
 have hbw4:Below w.heap.size w (w3.setCell ⟨w.heap.size+1+1,2,none⟩ (.slice (some ⟨W2.heap.size,0,none⟩) qs.length qs.length)):=(hbw2.trans (hb3.mono (by omega))).setCell (by show w.heap.size <= w.heap.size+1+1; omega) _
 have fe4:FE (w3.setCell ⟨w.heap.size+1+1,2,none⟩ (.slice (some ⟨W2.heap.size,0,none⟩) qs.length qs.length)) ge es es.length:=ro2.keptE (HFE.out.1.below hb3 (by omega)) (Below.heap_setCell _ _ _ _ (by show ge ≠ w.heap.size+1+1; omega))
 have fb4:FB (w3.setCell ⟨w.heap.size+1+1,2,none⟩ (.slice (some ⟨W2.heap.size,0,none⟩) qs.length qs.length)) gb bs bs.length:=ro2.keptB (HFE.out.2.below hb3 (by omega)) (Below.heap_setCell _ _ _ _ (by show gb ≠ w.heap.size+1+1; omega))
 have so4:=hso.set (x:=w.heap.size+1+1) (o:=2) (by omega) (by omega) (.slice (some ⟨W2.heap.size,0,none⟩) qs.length qs.length)
 have hsz4:(w3.setCell ⟨w.heap.size+1+1,2,none⟩ (.slice (some ⟨W2.heap.size,0,none⟩) qs.length qs.length)).heap.size=w3.heap.size:=by simp
 obtain ⟨W4,hW4⟩:∃ W4,w3.setCell ⟨w.heap.size+1+1,2,none⟩ (.slice (some ⟨W2.heap.size,0,none⟩) qs.length qs.length)=W4:=⟨_,rfl⟩
 rw [hW4] at o4 a4 r4 hbw4 fe4 fb4 so4 hsz4
 have hq4:=su.to_all ts ta tc W4 htl HTX.out (HT.out.inn hbw4)
 have c3:W4.cell? ⟨w.heap.size,3,none⟩=some (.slice ta ts.length tc):=bcell a4 rfl
 have HO4:Hid (W4.heap[w.heap.size+1+1]?=some (.cells #[.slice (some ⟨ge,0,none⟩) es.length es.length,.slice (some ⟨gb,0,none⟩) bs.length bs.length,.slice (some ⟨W2.heap.size,0,none⟩) qs.length qs.length,.slice none 0 0] 38 (0,0))):=o4
 have HR4:Hid (W4.heap[w.heap.size+1]?=some (.cells #[.slice none 0 0,.slice none 0 0,.slice none 0 0,.slice none 0 0] 38 (0,0))):=r4
 have HF4:Hid (FE W4 ge es es.length/\FB W4 gb bs bs.length):=⟨fe4,fb4⟩
 have HS4:Hid (qu.So W4 (W2.heap.size+1) W2.heap.size qs ks qs.length):=so4
 have hl4:W2.heap.size+1 <= W4.heap.size:=by omega
 clear hsz4
 clear c2 hq hso o3 o4 a4 r4 fe4 fb4 so4 HO2 HR2 HFE HA2
 go_wp2_with (go_at_call 20; fail)
 clear hW4 u2 uf2
 refine hq4.mono ?_
 rintro e w5 ⟨us,rfl,hst,hb5⟩
 have hs5:=hb5.size
 have u:=bstay HO4.out hb5 (by omega)
 have v:=bstay HR4.out hb5 (by omega)
 obtain ⟨u0,u1,u2,u3⟩:=fl.q4 u
 have uf:=bfree u 3
 obtain ⟨v0,v1,v2,v3⟩:=fl.q4 v
 obtain ⟨vf0,vf1,vf2,vf3⟩:=fl.r4 v
 have hqd:∀ (j:Nat) (r:qu.E),ks[j]?=some r->∀ b o,(r.ra=some ⟨b,o,none⟩ ∨ r.ha=some ⟨b,o,none⟩)->b < W4.heap.size:=fun j r hj=>mine_lt (HS4.out.mine j r (by have:=HS4.out.len; have:=(List.getElem?_eq_some_iff.1 hj).1; omega) hj)
 have HCO:Hid (Co w5 w.heap.size es bs qs ts ge gb W2.heap.size W4.heap.size ks us):=⟨HF4.out.1.below hb5 (by omega),HF4.out.2.below hb5 (by omega),HS4.out.below hb5,hst,by omega,by omega,hne,⟨by omega,by omega⟩,by omega,hqd⟩
 have hbw5:Below w.heap.size w w5:=hbw4.trans (hb5.mono (by omega))
 have kept:∀ (V:World) (x:Nat) (o:Nat) (y:Value),x < w.heap.size+3->Co V w.heap.size es bs qs ts ge gb W2.heap.size W4.heap.size ks us->Co (V.setCell ⟨x,o,none⟩ y) w.heap.size es bs qs ts ge gb W2.heap.size W4.heap.size ks us:=fun V x o y hx h=>⟨ro2.keptE h.he (Below.heap_setCell _ _ _ _ (by show ge ≠ x; omega)),ro2.keptB h.hb (Below.heap_setCell _ _ _ _ (by show gb ≠ x; omega)),h.hq.set (by omega) (by omega) y,h.ht.set (by omega) (by omega) y,h.be,h.bb,h.eb,h.eq,h.qt,h.qd⟩
 have HKP:Hid (∀ (V:World) (x:Nat) (o:Nat) (y:Value),x < w.heap.size+3->Co V w.heap.size es bs qs ts ge gb W2.heap.size W4.heap.size ks us->Co (V.setCell ⟨x,o,none⟩ y) w.heap.size es bs qs ts ge gb W2.heap.size W4.heap.size ks us):=kept
 clear hq4 u v hst c3 hqd kept HF4 HS4 HO4 HR4
 go_wp2
 refine bodyPost_ret (v:=.agg #[.slice (some ⟨ge,0,none⟩) es.length es.length,.slice (some ⟨gb,0,none⟩) bs.length bs.length,.slice (some ⟨W2.heap.size,0,none⟩) qs.length qs.length,.slice (some ⟨W4.heap.size,0,none⟩) ts.length ts.length]) (by simp [results,Tryz.results6,go_sem,v0,v1,v2,v3]) rfl ⟨ge,gb,W2.heap.size,W4.heap.size,ks,us,rfl,?_,?_⟩
 ·exact HKP.out _ _ _ _ (by omega) (HKP.out _ _ _ _ (by omega) (HKP.out _ _ _ _ (by omega) (HKP.out _ _ _ _ (by omega) (HKP.out _ _ _ _ (by omega) HCO.out))))
 ·exact ((((hbw5.setCell (by show w.heap.size <= w.heap.size+1+1; omega) _).setCell (by show w.heap.size <= w.heap.size+1; omega) _).setCell (by show w.heap.size <= w.heap.size+1; omega) _).setCell (by show w.heap.size <= w.heap.size+1; omega) _).setCell (by show w.heap.size <= w.heap.size+1; omega) _
end Go.Proofs.YtaoefccgdfcchaaGreat.co
