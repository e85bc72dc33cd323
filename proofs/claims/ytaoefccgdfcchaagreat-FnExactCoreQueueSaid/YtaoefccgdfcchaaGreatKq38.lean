/- CopyCore. -/
import Derived.Test.YtaoefccgdfcchaaGreatKq25
import Derived.Test.YtaoefccgdfcchaaGreatKq13
import Derived.Test.YtaoefccgdfcchaaGreatKq36
import Derived.Test.YtaoefccgdfcchaaGreatKq37
import Derived.Test.YtaoefccgdfcchaaGreatKq29
set_option maxRecDepth 100000
set_option maxHeartbeats 8000000
set_option linter.unusedVariables false
namespace Go.Proofs.YtaoefccgdfcchaaGreat.cco
open ChangeShapes WideShapes ChangeAt RowKit fl rr rt co
theorem make_qu (W:World) (l:List qu.E) (hl:l.length <= 1048576):(Instr.makeSlice 35 (.int .i64 (l.length:Int)) (.int .i64 (l.length:Int))).run Tryz.prog W=.ok (.slice (some ⟨W.heap.size,0,none⟩) l.length l.length) (W.alloc (.cells (madeCells #[.string ByteArray.empty,.int .i64 0,.slice none 0 0,.slice none 0 0] (l.length*4)) 58)):=by
 obtain ⟨i0,hi,hz0,hz1,hz2⟩:∃ i0,Tryz.prog.info? 58=some i0/\i0.zero=some (.agg #[.string ByteArray.empty,.int .i64 0,.slice none 0 0,.slice none 0 0])/\i0.size=4/\i0.bytes=72:=by
  have h:=qu.info
  cases hh:Tryz.prog.info? 58 with
  | none=>rw [hh] at h; cases h
  | some i=>rw [hh] at h; simp at h; exact ⟨i,rfl,h.1,h.2.1,h.2.2⟩
 have hmk:=run_makeSlice (P:=Tryz.prog) W 35 58 i0 _ Tryz.underlying35 hi hz0 .i64 .i64 (l.length:Int) (l.length:Int) (by omega) (Int.le_refl _) (by rw [hz1]; simp; omega) (by rw [hz2]; omega) (by omega)
 rw [hz1,show ((l.length:Int)).toNat=l.length by omega] at hmk
 exact hmk
theorem make_su (W:World) (l:List su.E) (hl:l.length <= 1048576):(Instr.makeSlice 36 (.int .i64 (l.length:Int)) (.int .i64 (l.length:Int))).run Tryz.prog W=.ok (.slice (some ⟨W.heap.size,0,none⟩) l.length l.length) (W.alloc (.cells (madeCells #[.string ByteArray.empty,.int .i64 0,.int .i64 0,.slice none 0 0,.slice none 0 0] (l.length*5)) 54)):=by
 obtain ⟨i0,hi,hz0,hz1,hz2⟩:∃ i0,Tryz.prog.info? 54=some i0/\i0.zero=some (.agg #[.string ByteArray.empty,.int .i64 0,.int .i64 0,.slice none 0 0,.slice none 0 0])/\i0.size=5/\i0.bytes=80:=by
  have h:=su.info
  cases hh:Tryz.prog.info? 54 with
  | none=>rw [hh] at h; cases h
  | some i=>rw [hh] at h; simp at h; exact ⟨i,rfl,h.1,h.2.1,h.2.2⟩
 have hmk:=run_makeSlice (P:=Tryz.prog) W 36 54 i0 _ Tryz.underlying36 hi hz0 .i64 .i64 (l.length:Int) (l.length:Int) (by omega) (Int.le_refl _) (by rw [hz1]; simp; omega) (by rw [hz2]; omega) (by omega)
 rw [hz1,show ((l.length:Int)).toNat=l.length by omega] at hmk
 exact hmk
structure G where
 ge:Nat
 gb:Nat
 gq:Nat
 gs:Nat
 gn:Nat
 xe:Nat
 xb:Nat
 xq:Nat
 xs:Nat
def ws (s:Nat) (es:List Ex) (bs:List Bi) (qs:List qu.E) (ts:List su.E) (a0 b0 q0 t0 ec bc qc tc:Nat) (g:G):List (Nat × Value):=[(8,.pointer (some ⟨s,0,none⟩)),(9,.agg #[.slice (some ⟨a0,0,none⟩) es.length ec,.slice (some ⟨b0,0,none⟩) bs.length bc]),(10,.agg #[.slice (some ⟨g.ge,0,none⟩) es.length es.length,.slice (some ⟨g.gb,0,none⟩) bs.length bs.length]),(11,.pointer (some ⟨s,2,none⟩)),(12,.slice (some ⟨q0,0,none⟩) qs.length qc),(13,.int .i64 qs.length),(14,.slice (some ⟨g.gq,0,none⟩) qs.length qs.length),(15,.pointer (some ⟨s,3,none⟩)),(16,.slice (some ⟨t0,0,none⟩) ts.length tc),(17,.int .i64 ts.length),(18,.slice (some ⟨g.gs,0,none⟩) ts.length ts.length),(19,.agg #[.slice (some ⟨g.xe,0,none⟩) es.length es.length,.slice (some ⟨g.xb,0,none⟩) bs.length bs.length,.slice (some ⟨g.xq,0,none⟩) qs.length qs.length,.slice (some ⟨g.xs,0,none⟩) ts.length ts.length]),(3,.pointer (some ⟨g.gn,0,none⟩))]
structure D (w:World) (es:List Ex) (bs:List Bi) (qs:List qu.E) (ts:List su.E) (a0 b0 q0 t0 ec bc qc tc:Nat) (g:G) (b2 b6 b10 b11 b12 b13:Bool) (W:World):Prop where
 bel:Below w.heap.size w W
 box:W.heap[w.heap.size]?=some (.cells #[.slice (some ⟨a0,0,none⟩) es.length ec,.slice (some ⟨b0,0,none⟩) bs.length bc,.slice (some ⟨q0,0,none⟩) qs.length qc,.slice (some ⟨t0,0,none⟩) ts.length tc] 38 (0,0))
 res:W.heap[w.heap.size+1]?=some (.cells #[.slice none 0 0,.slice none 0 0,.slice none 0 0,.slice none 0 0] 38 (0,0))
 row2:b2=true->FE W g.ge es es.length/\FB W g.gb bs bs.length/\w.heap.size+2 <= g.ge/\w.heap.size+2 <= g.gb/\g.ge ≠ g.gb
 row6:b6=true->Own qu.c 4 58 W g.gq qs 0/\w.heap.size+2 <= g.gq
 row10:b10=true->Own su.c 5 54 W g.gs ts 0/\w.heap.size+2 <= g.gs
 at11:b11=true->b2=true/\b6=true/\b10=true/\g.xe=g.ge/\g.xb=g.gb/\g.xq=g.gq/\g.xs=g.gs
 at12:b12=true->W.heap[g.gn]?=some (.cells (if b13 then #[.slice (some ⟨g.xe,0,none⟩) es.length es.length,.slice (some ⟨g.xb,0,none⟩) bs.length bs.length,.slice (some ⟨g.xq,0,none⟩) qs.length qs.length,.slice (some ⟨g.xs,0,none⟩) ts.length ts.length] else #[.slice none 0 0,.slice none 0 0,.slice none 0 0,.slice none 0 0]) 38 (0,0))/\w.heap.size+2 <= g.gn
 at13:b13=true->b11=true/\b12=true
def Cl (w:World) (es:List Ex) (bs:List Bi) (qs:List qu.E) (ts:List su.E) (a0 b0 q0 t0 ec bc qc tc:Nat) (g:G) (L:Nat->Bool) (W:World):Prop:=D w es bs qs ts a0 b0 q0 t0 ec bc qc tc g (L 2) (L 6) (L 10) (L 11) (L 12) (L 13) W
section
variable {w:World} {es:List Ex} {bs:List Bi} {qs:List qu.E} {ts:List su.E} {a0 b0 q0 t0 ec bc qc tc:Nat} {g:G} {b2 b6 b10 b11 b12 b13:Bool} {W W':World}
theorem D.on (h:D w es bs qs ts a0 b0 q0 t0 ec bc qc tc g b2 b6 b10 b11 b12 b13 W) (hb:Below W.heap.size W W'):D w es bs qs ts a0 b0 q0 t0 ec bc qc tc g b2 b6 b10 b11 b12 b13 W' :=
 ⟨h.bel.trans (hb.mono h.bel.size),bstay h.box hb (Array.getElem?_eq_some_iff.1 h.box).1,bstay h.res hb (Array.getElem?_eq_some_iff.1 h.res).1,
  fun e=>⟨(h.row2 e).1.below hb (h.row2 e).1.lt,(h.row2 e).2.1.below hb (h.row2 e).2.1.lt,(h.row2 e).2.2⟩,fun e=>⟨(h.row6 e).1.below hb (h.row6 e).1.lt,(h.row6 e).2⟩,fun e=>⟨(h.row10 e).1.below hb (h.row10 e).1.lt,(h.row10 e).2⟩,h.at11,
  fun e=>⟨bstay (h.at12 e).1 hb (Array.getElem?_eq_some_iff.1 (h.at12 e).1).1,(h.at12 e).2⟩,h.at13⟩
theorem D.size (h:D w es bs qs ts a0 b0 q0 t0 ec bc qc tc g b2 b6 b10 b11 b12 b13 W):w.heap.size+2 <= W.heap.size:=(Array.getElem?_eq_some_iff.1 h.res).1
end
section
variable {w:World} {es:List Ex} {bs:List Bi} {qs:List qu.E} {ts:List su.E} {a0 b0 q0 t0 ec bc qc tc:Nat} {act:Act} {Q:Exit->Act->World->Prop}
theorem more_off {i:Nat} {L:Nat->Bool} {s:G} {W:World} (hi:i < 2 ∨ i=3 ∨ i=4 ∨ i=5 ∨ i=7 ∨ i=8 ∨ i=9) (hC:D w es bs qs ts a0 b0 q0 t0 ec bc qc tc s (L 2) (L 6) (L 10) (L 11) (L 12) (L 13) W):Cl w es bs qs ts a0 b0 q0 t0 ec bc qc tc s (dn.more L i) W:=by
 unfold Cl dn.more
 rw [if_neg (by omega),if_neg (by omega),if_neg (by omega),if_neg (by omega),if_neg (by omega),if_neg (by omega)]
 exact hC
theorem quiet {i:Nat} {o:Oper} (hi:i < 2 ∨ i=3 ∨ i=4 ∨ i=5 ∨ i=7 ∨ i=8 ∨ i=9) (hsel:∀ cs b,o.op ≠ .select cs b) (v:Value) (hd:∀ s d,o.dst=some d->(dk.sets act (ws w.heap.size es bs qs ts a0 b0 q0 t0 ec bc qc tc s)).tmps[d]?=some v)
  (hrun:∀ s W,W.heap[w.heap.size]?=some (.cells #[.slice (some ⟨a0,0,none⟩) es.length ec,.slice (some ⟨b0,0,none⟩) bs.length bc,.slice (some ⟨q0,0,none⟩) qs.length qc,.slice (some ⟨t0,0,none⟩) ts.length tc] 38 (0,0))->(execOp (dk.sets act (ws w.heap.size es bs qs ts a0 b0 q0 t0 ec bc qc tc s)).eval o).run Tryz.prog W=.ok (.value v) W):gh.Step Tryz.prog (fun s=>dk.sets act (ws w.heap.size es bs qs ts a0 b0 q0 t0 ec bc qc tc s)) (Cl w es bs qs ts a0 b0 q0 t0 ec bc qc tc) Q i o:=by
 refine gh.step_val hsel fun s L W hdp h0 hC=>⟨s,v,gh.Agree.refl _ _,hd s,?_⟩
 rw [hrun s W hC.box]
 exact ⟨rfl,more_off hi hC⟩
theorem st2 {o:Oper} (hsz:20 < act.tmps.size) (hop:o.op=.call { callee:=.value (.func 51),args:=#[.tmp 9],argTypes:=#[34] }) (hdst:o.dst=some 10)
  (hcall:∀ W,Below w.heap.size w W->Calls Tryz.prog 51 #[.agg #[.slice (some ⟨a0,0,none⟩) es.length ec,.slice (some ⟨b0,0,none⟩) bs.length bc]] W fun r w'=>∃ g h,r=.returned (.agg #[.slice (some ⟨g,0,none⟩) es.length es.length,.slice (some ⟨h,0,none⟩) bs.length bs.length])/\W.heap.size <= g/\W.heap.size <= h/\g ≠ h/\FE w' g es es.length/\FB w' h bs bs.length/\Below W.heap.size W w'):gh.Step Tryz.prog (fun s=>dk.sets act (ws w.heap.size es bs qs ts a0 b0 q0 t0 ec bc qc tc s)) (Cl w es bs qs ts a0 b0 q0 t0 ec bc qc tc) Q 2 o:=by
 refine stc.step_call (by rw [hop]; simp) 51 #[.agg #[.slice (some ⟨a0,0,none⟩) es.length ec,.slice (some ⟨b0,0,none⟩) bs.length bc]] fun s L W hdp h0 hC=>?_
 have hC:D w es bs qs ts a0 b0 q0 t0 ec bc qc tc s (L 2) (L 6) (L 10) (L 11) (L 12) (L 13) W:=hC
 have e9:(dk.sets act (ws w.heap.size es bs qs ts a0 b0 q0 t0 ec bc qc tc s)).tmps[9]?=some (.agg #[.slice (some ⟨a0,0,none⟩) es.length ec,.slice (some ⟨b0,0,none⟩) bs.length bc]):=dk.sets_on _ (by omega) _ rfl
 refine ⟨by simp [execOp,hop,e9,go_sem],(hcall W hC.bel).mono ?_⟩
 rintro e w' ⟨g,h,rfl,hg,hh,hgh,fe,fb,hb⟩
 refine ⟨{ s with ge:=g,gb:=h },.agg #[.slice (some ⟨g,0,none⟩) es.length es.length,.slice (some ⟨h,0,none⟩) bs.length bs.length],rfl,dk.agree_sets 2 10 _ hdst rfl rfl,(fun d hd=>by rw [hdst] at hd; cases hd; exact dk.sets_on _ (by omega) _ rfl),?_⟩
 show D w es bs qs ts a0 b0 q0 t0 ec bc qc tc _ true (L 6) (L 10) (L 11) (L 12) (L 13) _
 have h1:=hC.on hb
 have hs:=hC.size
 refine ⟨h1.bel,h1.box,h1.res,fun _=>⟨fe,fb,by simp only; omega,by simp only; omega,hgh⟩,h1.row6,h1.row10,fun e=>?_,h1.at12,h1.at13⟩
 have:=(h1.at11 e).1
 rw [h0] at this
 cases this
theorem st6 {o:Oper} (hml:qs.length <= 1048576) (hsz:20 < act.tmps.size) (hop:o.op=.makeSlice 35 (.tmp 13) (.tmp 13)) (hdst:o.dst=some 14):gh.Step Tryz.prog (fun s=>dk.sets act (ws w.heap.size es bs qs ts a0 b0 q0 t0 ec bc qc tc s)) (Cl w es bs qs ts a0 b0 q0 t0 ec bc qc tc) Q 6 o:=by
 refine gh.step_val (by rw [hop]; simp) fun s L W hdp h0 hC=>⟨{ s with gq:=W.heap.size },.slice (some ⟨W.heap.size,0,none⟩) qs.length qs.length,dk.agree_sets 6 14 _ hdst rfl rfl,(fun d hd=>by rw [hdst] at hd; cases hd; exact dk.sets_on _ (by omega) _ rfl),?_⟩
 have e0:(dk.sets act (ws w.heap.size es bs qs ts a0 b0 q0 t0 ec bc qc tc s)).eval (.tmp 13)=.int .i64 qs.length:=dk.eval_on _ _ (by omega) rfl
 have hr:=make_qu W qs hml
 have hrun:(execOp (dk.sets act (ws w.heap.size es bs qs ts a0 b0 q0 t0 ec bc qc tc s)).eval o).run Tryz.prog W=.ok (.value (.slice (some ⟨W.heap.size,0,none⟩) qs.length qs.length)) (W.alloc (.cells (madeCells #[.string ByteArray.empty,.int .i64 0,.slice none 0 0,.slice none 0 0] (qs.length*4)) 58)):=by
  simp only [execOp,hop,e0,Sem.run_bind,hr,Result.andThen]
  rfl
 rw [hrun]
 refine ⟨rfl,?_⟩
 have hC:D w es bs qs ts a0 b0 q0 t0 ec bc qc tc s (L 2) (L 6) (L 10) (L 11) (L 12) (L 13) W:=hC
 show D w es bs qs ts a0 b0 q0 t0 ec bc qc tc _ (L 2) true (L 10) (L 11) (L 12) (L 13) _
 have h1:=hC.on ((Below.refl _ _).alloc (Nat.le_refl _) (.cells (madeCells #[.string ByteArray.empty,.int .i64 0,.slice none 0 0,.slice none 0 0] (qs.length*4)) 58))
 refine ⟨h1.bel,h1.box,h1.res,h1.row2,fun _=>⟨made (c:=qu.c) [.string ByteArray.empty,.int .i64 0,.slice none 0 0,.slice none 0 0] W qs rfl,hC.size⟩,h1.row10,fun e=>?_,h1.at12,h1.at13⟩
 have:=(h1.at11 e).2.1
 rw [h0] at this
 cases this
theorem st10 {o:Oper} (hml:ts.length <= 1048576) (hsz:20 < act.tmps.size) (hop:o.op=.makeSlice 36 (.tmp 17) (.tmp 17)) (hdst:o.dst=some 18):gh.Step Tryz.prog (fun s=>dk.sets act (ws w.heap.size es bs qs ts a0 b0 q0 t0 ec bc qc tc s)) (Cl w es bs qs ts a0 b0 q0 t0 ec bc qc tc) Q 10 o:=by
 refine gh.step_val (by rw [hop]; simp) fun s L W hdp h0 hC=>⟨{ s with gs:=W.heap.size },.slice (some ⟨W.heap.size,0,none⟩) ts.length ts.length,dk.agree_sets 10 18 _ hdst rfl rfl,(fun d hd=>by rw [hdst] at hd; cases hd; exact dk.sets_on _ (by omega) _ rfl),?_⟩
 have e0:(dk.sets act (ws w.heap.size es bs qs ts a0 b0 q0 t0 ec bc qc tc s)).eval (.tmp 17)=.int .i64 ts.length:=dk.eval_on _ _ (by omega) rfl
 have hr:=make_su W ts hml
 have hrun:(execOp (dk.sets act (ws w.heap.size es bs qs ts a0 b0 q0 t0 ec bc qc tc s)).eval o).run Tryz.prog W=.ok (.value (.slice (some ⟨W.heap.size,0,none⟩) ts.length ts.length)) (W.alloc (.cells (madeCells #[.string ByteArray.empty,.int .i64 0,.int .i64 0,.slice none 0 0,.slice none 0 0] (ts.length*5)) 54)):=by
  simp only [execOp,hop,e0,Sem.run_bind,hr,Result.andThen]
  rfl
 rw [hrun]
 refine ⟨rfl,?_⟩
 have hC:D w es bs qs ts a0 b0 q0 t0 ec bc qc tc s (L 2) (L 6) (L 10) (L 11) (L 12) (L 13) W:=hC
 show D w es bs qs ts a0 b0 q0 t0 ec bc qc tc _ (L 2) (L 6) true (L 11) (L 12) (L 13) _
 have h1:=hC.on ((Below.refl _ _).alloc (Nat.le_refl _) (.cells (madeCells #[.string ByteArray.empty,.int .i64 0,.int .i64 0,.slice none 0 0,.slice none 0 0] (ts.length*5)) 54))
 refine ⟨h1.bel,h1.box,h1.res,h1.row2,h1.row6,fun _=>⟨made (c:=su.c) [.string ByteArray.empty,.int .i64 0,.int .i64 0,.slice none 0 0,.slice none 0 0] W ts rfl,hC.size⟩,fun e=>?_,h1.at12,h1.at13⟩
 have:=(h1.at11 e).2.2.1
 rw [h0] at this
 cases this
theorem st11 {o:Oper} (hsz:20 < act.tmps.size) (hop:o.op=.build 38 #[(0,.tmp 10),(1,.tmp 14),(2,.tmp 18)]) (hdst:o.dst=some 19) (hd2:∃ e ∈ o.after,Region.binds .any e=true/\e.on=2) (hd6:∃ e ∈ o.after,Region.binds .any e=true/\e.on=6) (hd10:∃ e ∈ o.after,Region.binds .any e=true/\e.on=10):gh.Step Tryz.prog (fun s=>dk.sets act (ws w.heap.size es bs qs ts a0 b0 q0 t0 ec bc qc tc s)) (Cl w es bs qs ts a0 b0 q0 t0 ec bc qc tc) Q 11 o:=by
 refine gh.step_val (by rw [hop]; simp) fun s L W hdp h0 hC=>⟨{ s with xe:=s.ge,xb:=s.gb,xq:=s.gq,xs:=s.gs },.agg #[.slice (some ⟨s.ge,0,none⟩) es.length es.length,.slice (some ⟨s.gb,0,none⟩) bs.length bs.length,.slice (some ⟨s.gq,0,none⟩) qs.length qs.length,.slice (some ⟨s.gs,0,none⟩) ts.length ts.length],dk.agree_sets 11 19 _ hdst rfl rfl,(fun d hd=>by rw [hdst] at hd; cases hd; exact dk.sets_on _ (by omega) _ rfl),?_⟩
 have e10:(dk.sets act (ws w.heap.size es bs qs ts a0 b0 q0 t0 ec bc qc tc s)).tmps[10]?=some (.agg #[.slice (some ⟨s.ge,0,none⟩) es.length es.length,.slice (some ⟨s.gb,0,none⟩) bs.length bs.length]):=dk.sets_on _ (by omega) _ rfl
 have e14:(dk.sets act (ws w.heap.size es bs qs ts a0 b0 q0 t0 ec bc qc tc s)).tmps[14]?=some (.slice (some ⟨s.gq,0,none⟩) qs.length qs.length):=dk.sets_on _ (by omega) _ rfl
 have e18:(dk.sets act (ws w.heap.size es bs qs ts a0 b0 q0 t0 ec bc qc tc s)).tmps[18]?=some (.slice (some ⟨s.gs,0,none⟩) ts.length ts.length):=dk.sets_on _ (by omega) _ rfl
 have hrun:(execOp (dk.sets act (ws w.heap.size es bs qs ts a0 b0 q0 t0 ec bc qc tc s)).eval o).run Tryz.prog W=.ok (.value (.agg #[.slice (some ⟨s.ge,0,none⟩) es.length es.length,.slice (some ⟨s.gb,0,none⟩) bs.length bs.length,.slice (some ⟨s.gq,0,none⟩) qs.length qs.length,.slice (some ⟨s.gs,0,none⟩) ts.length ts.length])) W:=by
  simp [execOp,hop,e10,e14,e18,go_sem]
 rw [hrun]
 refine ⟨rfl,?_⟩
 obtain ⟨x2,m2,y2,z2⟩:=hd2
 obtain ⟨x6,m6,y6,z6⟩:=hd6
 obtain ⟨x10,m10,y10,z10⟩:=hd10
 have l2:=hdp x2 m2 y2
 have l6:=hdp x6 m6 y6
 have l10:=hdp x10 m10 y10
 rw [z2] at l2
 rw [z6] at l6
 rw [z10] at l10
 have hC:D w es bs qs ts a0 b0 q0 t0 ec bc qc tc s (L 2) (L 6) (L 10) (L 11) (L 12) (L 13) W:=hC
 show D w es bs qs ts a0 b0 q0 t0 ec bc qc tc _ (L 2) (L 6) (L 10) true (L 12) (L 13) _
 have h13:L 13=false:=by
  cases h:L 13 with
  | false=>rfl
  | true=>have:=(hC.at13 h).1; rw [h0] at this; cases this
 refine ⟨hC.bel,hC.box,hC.res,hC.row2,hC.row6,hC.row10,fun _=>⟨l2,l6,l10,rfl,rfl,rfl,rfl⟩,fun e=>?_,fun e=>by rw [h13] at e; cases e⟩
 have:=hC.at12 e
 rw [h13] at this ⊢
 exact this
theorem st12 {o:Oper} (hsz:20 < act.tmps.size) (hop:o.op=.alloc 38) (hdst:o.dst=some 3):gh.Step Tryz.prog (fun s=>dk.sets act (ws w.heap.size es bs qs ts a0 b0 q0 t0 ec bc qc tc s)) (Cl w es bs qs ts a0 b0 q0 t0 ec bc qc tc) Q 12 o:=by
 refine gh.step_val (by rw [hop]; simp) fun s L W hdp h0 hC=>⟨{ s with gn:=W.heap.size },.pointer (some ⟨W.heap.size,0,none⟩),dk.agree_sets 12 3 _ hdst rfl rfl,(fun d hd=>by rw [hdst] at hd; cases hd; exact dk.sets_on _ (by omega) _ rfl),?_⟩
 have hrun:(execOp (dk.sets act (ws w.heap.size es bs qs ts a0 b0 q0 t0 ec bc qc tc s)).eval o).run Tryz.prog W=.ok (.value (.pointer (some ⟨W.heap.size,0,none⟩))) (W.alloc (.cells #[.slice none 0 0,.slice none 0 0,.slice none 0 0,.slice none 0 0] 38)):=by
  simp [execOp,hop,go_sem]
 rw [hrun]
 refine ⟨rfl,?_⟩
 have hC:D w es bs qs ts a0 b0 q0 t0 ec bc qc tc s (L 2) (L 6) (L 10) (L 11) (L 12) (L 13) W:=hC
 show D w es bs qs ts a0 b0 q0 t0 ec bc qc tc _ (L 2) (L 6) (L 10) (L 11) true (L 13) _
 have h13:L 13=false:=by
  cases h:L 13 with
  | false=>rfl
  | true=>have:=(hC.at13 h).2; rw [h0] at this; cases this
 have h1:=hC.on ((Below.refl _ _).alloc (Nat.le_refl _) (.cells #[.slice none 0 0,.slice none 0 0,.slice none 0 0,.slice none 0 0] 38))
 refine ⟨h1.bel,h1.box,h1.res,h1.row2,h1.row6,h1.row10,h1.at11,fun _=>⟨?_,hC.size⟩,fun e=>by rw [h13] at e; cases e⟩
 rw [h13]
 exact bnew W _ _
theorem ne_e {W:World} {g h:Nat} {l:List Ex} {k:Nat} {cur:Array Value} {U:TypeId} (hU:137 ≠ U) (h1:FE W g l k) (h2:W.heap[h]?=some (.cells cur U (0,0))):g ≠ h:=by
 rintro rfl
 obtain ⟨x,h3,_⟩:=h1
 rw [h2] at h3
 simp at h3
 exact hU h3.2.symm
theorem ne_b {W:World} {g h:Nat} {l:List Bi} {k:Nat} {cur:Array Value} {U:TypeId} (hU:138 ≠ U) (h1:FB W g l k) (h2:W.heap[h]?=some (.cells cur U (0,0))):g ≠ h:=by
 rintro rfl
 obtain ⟨x,h3,_⟩:=h1
 rw [h2] at h3
 simp at h3
 exact hU h3.2.symm
theorem st13 {o:Oper} (hsz:20 < act.tmps.size) (hop:o.op=.store 38 (.tmp 3) (.tmp 19)) (hdst:o.dst=none) (hd11:∃ e ∈ o.after,Region.binds .any e=true/\e.on=11) (hd12:∃ e ∈ o.after,Region.binds .any e=true/\e.on=12):gh.Step Tryz.prog (fun s=>dk.sets act (ws w.heap.size es bs qs ts a0 b0 q0 t0 ec bc qc tc s)) (Cl w es bs qs ts a0 b0 q0 t0 ec bc qc tc) Q 13 o:=by
 refine gh.step_val (by rw [hop]; simp) fun s L W hdp h0 hC=>⟨s,undef,gh.Agree.refl _ _,(fun d hd=>by rw [hdst] at hd; cases hd),?_⟩
 have e3:(dk.sets act (ws w.heap.size es bs qs ts a0 b0 q0 t0 ec bc qc tc s)).tmps[3]?=some (.pointer (some ⟨s.gn,0,none⟩)):=dk.sets_on _ (by omega) _ rfl
 have e19:(dk.sets act (ws w.heap.size es bs qs ts a0 b0 q0 t0 ec bc qc tc s)).tmps[19]?=some (.agg #[.slice (some ⟨s.xe,0,none⟩) es.length es.length,.slice (some ⟨s.xb,0,none⟩) bs.length bs.length,.slice (some ⟨s.xq,0,none⟩) qs.length qs.length,.slice (some ⟨s.xs,0,none⟩) ts.length ts.length]):=dk.sets_on _ (by omega) _ rfl
 obtain ⟨x11,m11,y11,z11⟩:=hd11
 obtain ⟨x12,m12,y12,z12⟩:=hd12
 have l11:=hdp x11 m11 y11
 have l12:=hdp x12 m12 y12
 rw [z11] at l11
 rw [z12] at l12
 have hC:D w es bs qs ts a0 b0 q0 t0 ec bc qc tc s (L 2) (L 6) (L 10) (L 11) (L 12) (L 13) W:=hC
 obtain ⟨hn,hns⟩:=hC.at12 l12
 rw [h0] at hn
 simp only [Bool.false_eq_true,if_false] at hn
 obtain ⟨c0,c1,c2,c3⟩:=fl.q4 hn
 obtain ⟨f0,f1,f2,f3⟩:=fl.r4 hn
 have hrun:(execOp (dk.sets act (ws w.heap.size es bs qs ts a0 b0 q0 t0 ec bc qc tc s)).eval o).run Tryz.prog W=.ok .skip ((((W.setCell ⟨s.gn,0,none⟩ (.slice (some ⟨s.xe,0,none⟩) es.length es.length)).setCell ⟨s.gn,1,none⟩ (.slice (some ⟨s.xb,0,none⟩) bs.length bs.length)).setCell ⟨s.gn,2,none⟩ (.slice (some ⟨s.xq,0,none⟩) qs.length qs.length)).setCell ⟨s.gn,3,none⟩ (.slice (some ⟨s.xs,0,none⟩) ts.length ts.length)):=by
  simp [execOp,hop,e3,e19,go_sem,c0,c1,c2,c3,f0,f1,f2,f3]
 rw [hrun]
 refine ⟨rfl,?_⟩
 show D w es bs qs ts a0 b0 q0 t0 ec bc qc tc _ (L 2) (L 6) (L 10) (L 11) (L 12) true _
 have hgn:w.heap.size <= s.gn:=by omega
 have kb:∀ (b:Nat) (ob:Obj),W.heap[b]?=some ob->b ≠ s.gn->((((W.setCell ⟨s.gn,0,none⟩ (.slice (some ⟨s.xe,0,none⟩) es.length es.length)).setCell ⟨s.gn,1,none⟩ (.slice (some ⟨s.xb,0,none⟩) bs.length bs.length)).setCell ⟨s.gn,2,none⟩ (.slice (some ⟨s.xq,0,none⟩) qs.length qs.length)).setCell ⟨s.gn,3,none⟩ (.slice (some ⟨s.xs,0,none⟩) ts.length ts.length)).heap[b]?=some ob:=fun b ob h hne=>boff (boff (boff (boff h _ _ _ hne) _ _ _ hne) _ _ _ hne) _ _ _ hne
 refine ⟨(((hC.bel.setCell hgn _).setCell hgn _).setCell hgn _).setCell hgn _,kb _ _ hC.box (by omega),kb _ _ hC.res (by omega),fun e=>?_,fun e=>?_,fun e=>?_,hC.at11,fun e=>⟨?_,hns⟩,fun _=>⟨l11,l12⟩⟩
 ·obtain ⟨⟨c,k1,k2⟩,⟨d,j1,j2⟩,r⟩:=hC.row2 e
  exact ⟨⟨c,kb _ _ k1 (ne_e (by decide) (hC.row2 e).1 hn),k2⟩,⟨d,kb _ _ j1 (ne_b (by decide) (hC.row2 e).2.1 hn),j2⟩,r⟩
 ·obtain ⟨⟨c,k1,k2⟩,r⟩:=hC.row6 e
  exact ⟨⟨c,kb _ _ k1 (cst.apart (by decide) (hC.row6 e).1 hn),k2⟩,r⟩
 ·obtain ⟨⟨c,k1,k2⟩,r⟩:=hC.row10 e
  exact ⟨⟨c,kb _ _ k1 (cst.apart (by decide) (hC.row10 e).1 hn),k2⟩,r⟩
 ·have:=bset (bset (bset (bset hn 0 (.slice (some ⟨s.xe,0,none⟩) es.length es.length)) 1 (.slice (some ⟨s.xb,0,none⟩) bs.length bs.length)) 2 (.slice (some ⟨s.xq,0,none⟩) qs.length qs.length)) 3 (.slice (some ⟨s.xs,0,none⟩) ts.length ts.length)
  simpa using this
end
structure Kn (w:World) (ge gb gq gs gn S0:Nat):Prop where
 e:w.heap.size+2 <= ge
 b:w.heap.size+2 <= gb
 eb:ge ≠ gb
 q:w.heap.size+2 <= gq
 s:w.heap.size+2 <= gs
 n:w.heap.size+2 <= gn
 ql:gq < S0
 sl:gs < S0
structure Iv (w:World) (es:List Ex) (bs:List Bi) (qs:List qu.E) (ts:List su.E) (a0 b0 q0 t0 ec bc qc tc:Nat) (ge gb gq gs gn S0:Nat) (ks:List qu.E) (k:Nat) (W:World):Prop where
 bel:Below w.heap.size w W
 box:W.heap[w.heap.size]?=some (.cells #[.slice (some ⟨a0,0,none⟩) es.length ec,.slice (some ⟨b0,0,none⟩) bs.length bc,.slice (some ⟨q0,0,none⟩) qs.length qc,.slice (some ⟨t0,0,none⟩) ts.length tc] 38 (0,0))
 res:W.heap[w.heap.size+1]?=some (.cells #[.slice none 0 0,.slice none 0 0,.slice none 0 0,.slice none 0 0] 38 (0,0))
 gnb:W.heap[gn]?=some (.cells #[.slice (some ⟨ge,0,none⟩) es.length es.length,.slice (some ⟨gb,0,none⟩) bs.length bs.length,.slice (some ⟨gq,0,none⟩) qs.length qs.length,.slice (some ⟨gs,0,none⟩) ts.length ts.length] 38 (0,0))
 fe:FE W ge es es.length
 fb:FB W gb bs bs.length
 so:qu.So W S0 gq qs ks k
 os:Own su.c 5 54 W gs ts 0
 hs:S0 <= W.heap.size
theorem row_on {α:Type} {c:α->List Value} {n:Nat} {w W:World} {a:Option Addr} {l:List α} (h:Row c n w w.heap.size a l) (hb:Below w.heap.size w W):Row c n W W.heap.size a l:=h.inn hb
section
variable {w:World} {es:List Ex} {bs:List Bi} {qs:List qu.E} {ts:List su.E} {a0 b0 q0 t0 ec bc qc tc:Nat} {ge gb gq gs gn S0 k:Nat} {ks:List qu.E} {W W':World}
theorem Iv.on (h:Iv w es bs qs ts a0 b0 q0 t0 ec bc qc tc ge gb gq gs gn S0 ks k W) (hb:Below W.heap.size W W'):Iv w es bs qs ts a0 b0 q0 t0 ec bc qc tc ge gb gq gs gn S0 ks k W' :=
 ⟨h.bel.trans (hb.mono h.bel.size),bstay h.box hb (Array.getElem?_eq_some_iff.1 h.box).1,bstay h.res hb (Array.getElem?_eq_some_iff.1 h.res).1,bstay h.gnb hb (Array.getElem?_eq_some_iff.1 h.gnb).1,h.fe.below hb h.fe.lt,h.fb.below hb h.fb.lt,h.so.below hb,h.os.below hb h.os.lt,Nat.le_trans h.hs hb.size⟩
theorem Iv.put {X w1:World} {nm:ByteArray} {nx:Int} {ra ha:Option Addr} {rc hc g h:Nat} {rs:List flM.Ms} {hs:List flH.Hd} (kn:Kn w ge gb gq gs gn S0) (hX:Iv w es bs qs ts a0 b0 q0 t0 ec bc qc tc ge gb gq gs gn S0 ks k X) (h1:Iv w es bs qs ts a0 b0 q0 t0 ec bc qc tc ge gb gq gs gn S0 ks k w1) (hk:qs[k]?=some ⟨nm,nx,ra,rc,rs,ha,hc,hs⟩) (hg:X.heap.size <= g) (hh:X.heap.size <= h) (hgh:g ≠ h) (o1:Own flM.c 5 129 w1 g rs rs.length) (o2:Own flH.c 7 131 w1 h hs hs.length) :
  Hid (Iv w es bs qs ts a0 b0 q0 t0 ec bc qc tc ge gb gq gs gn S0 (ks.set k ⟨nm,nx,some ⟨g,0,none⟩,rs.length,rs,some ⟨h,0,none⟩,hs.length,hs⟩) (k+1) ((((w1.setCell ⟨gq,k*4,none⟩ (.string nm)).setCell ⟨gq,k*4+1,none⟩ (.int .i64 nx)).setCell ⟨gq,k*4+2,none⟩ (.slice (some ⟨g,0,none⟩) rs.length rs.length)).setCell ⟨gq,k*4+3,none⟩ (.slice (some ⟨h,0,none⟩) hs.length hs.length))):=by
 obtain ⟨cur,hc1,hc2,_⟩:=h1.so.own
 have n1:w.heap.size ≠ gq:=by have:=kn.q; omega
 have n2:w.heap.size+1 ≠ gq:=by have:=kn.q; omega
 have n3:gn ≠ gq:=by
  rintro rfl
  rw [h1.gnb] at hc1
  simp at hc1
 have n4:=ne_e (by decide) h1.fe hc1
 have n5:=ne_b (by decide) h1.fb hc1
 have n6:=cst.apart (by decide) h1.os hc1
 have q1:=kn.q
 have q2:=kn.ql
 have q3:=hX.hs
 have kb:∀ (b:Nat) (ob:Obj),w1.heap[b]?=some ob->b ≠ gq->((((w1.setCell ⟨gq,k*4,none⟩ (.string nm)).setCell ⟨gq,k*4+1,none⟩ (.int .i64 nx)).setCell ⟨gq,k*4+2,none⟩ (.slice (some ⟨g,0,none⟩) rs.length rs.length)).setCell ⟨gq,k*4+3,none⟩ (.slice (some ⟨h,0,none⟩) hs.length hs.length)).heap[b]?=some ob:=fun b ob h hne=>boff (boff (boff (boff h _ _ _ hne) _ _ _ hne) _ _ _ hne) _ _ _ hne
 obtain ⟨c1,k1,k2⟩:=h1.fe
 obtain ⟨c2,j1,j2⟩:=h1.fb
 obtain ⟨c3,i1,i2⟩:=h1.os
 refine ⟨(((h1.bel.setCell (by show w.heap.size <= gq; omega) _).setCell (by show w.heap.size <= gq; omega) _).setCell (by show w.heap.size <= gq; omega) _).setCell (by show w.heap.size <= gq; omega) _,kb _ _ h1.box n1,kb _ _ h1.res n2,kb _ _ h1.gnb n3,⟨c1,kb _ _ k1 n4,k2⟩,⟨c2,kb _ _ j1 n5,j2⟩,?_,⟨c3,kb _ _ i1 n6,i2⟩,by simp only [World.size_setCell]; exact h1.hs⟩
 exact h1.so.more (fun j r hj hr b hb=>by have:=(hX.so.mine j r hj hr).lt hb; omega) (by omega) hk (by omega) (by omega) hgh o1 o2
end
structure Jv (w:World) (es:List Ex) (bs:List Bi) (qs:List qu.E) (ts:List su.E) (a0 b0 q0 t0 ec bc qc tc:Nat) (ge gb gq gs gn S0 S1:Nat) (ks:List qu.E) (us:List su.E) (k:Nat) (W:World):Prop where
 bel:Below w.heap.size w W
 box:W.heap[w.heap.size]?=some (.cells #[.slice (some ⟨a0,0,none⟩) es.length ec,.slice (some ⟨b0,0,none⟩) bs.length bc,.slice (some ⟨q0,0,none⟩) qs.length qc,.slice (some ⟨t0,0,none⟩) ts.length tc] 38 (0,0))
 res:W.heap[w.heap.size+1]?=some (.cells #[.slice none 0 0,.slice none 0 0,.slice none 0 0,.slice none 0 0] 38 (0,0))
 gnb:W.heap[gn]?=some (.cells #[.slice (some ⟨ge,0,none⟩) es.length es.length,.slice (some ⟨gb,0,none⟩) bs.length bs.length,.slice (some ⟨gq,0,none⟩) qs.length qs.length,.slice (some ⟨gs,0,none⟩) ts.length ts.length] 38 (0,0))
 fe:FE W ge es es.length
 fb:FB W gb bs bs.length
 so:qu.So W S0 gq qs ks qs.length
 st:su.So W S1 gs ts us k
 hs:S1 <= W.heap.size
section
variable {w:World} {es:List Ex} {bs:List Bi} {qs:List qu.E} {ts:List su.E} {a0 b0 q0 t0 ec bc qc tc:Nat} {ge gb gq gs gn S0 S1 k:Nat} {ks:List qu.E} {us:List su.E} {W W':World}
theorem Jv.on (h:Jv w es bs qs ts a0 b0 q0 t0 ec bc qc tc ge gb gq gs gn S0 S1 ks us k W) (hb:Below W.heap.size W W'):Jv w es bs qs ts a0 b0 q0 t0 ec bc qc tc ge gb gq gs gn S0 S1 ks us k W' :=
 ⟨h.bel.trans (hb.mono h.bel.size),bstay h.box hb (Array.getElem?_eq_some_iff.1 h.box).1,bstay h.res hb (Array.getElem?_eq_some_iff.1 h.res).1,bstay h.gnb hb (Array.getElem?_eq_some_iff.1 h.gnb).1,h.fe.below hb h.fe.lt,h.fb.below hb h.fb.lt,h.so.below hb,h.st.below hb,Nat.le_trans h.hs hb.size⟩
theorem Jv.put {X w1:World} {nm:ByteArray} {lo nx:Int} {ra ha:Option Addr} {rc hc g h:Nat} {rs:List flY.En} {hs:List Ex} (kn:Kn w ge gb gq gs gn S0) (hS:S0 <= S1) (hX:Jv w es bs qs ts a0 b0 q0 t0 ec bc qc tc ge gb gq gs gn S0 S1 ks us k X) (h1:Jv w es bs qs ts a0 b0 q0 t0 ec bc qc tc ge gb gq gs gn S0 S1 ks us k w1) (hk:ts[k]?=some ⟨nm,lo,nx,ra,rc,rs,ha,hc,hs⟩) (hg:X.heap.size <= g) (hh:X.heap.size <= h) (hgh:g ≠ h) (o1:Own flY.c 3 134 w1 g rs rs.length) (o2:Own flK.c 2 136 w1 h hs hs.length) :
  Hid (Jv w es bs qs ts a0 b0 q0 t0 ec bc qc tc ge gb gq gs gn S0 S1 ks (us.set k ⟨nm,lo,nx,some ⟨g,0,none⟩,rs.length,rs,some ⟨h,0,none⟩,hs.length,hs⟩) (k+1) (((((w1.setCell ⟨gs,k*5,none⟩ (.string nm)).setCell ⟨gs,k*5+1,none⟩ (.int .i64 lo)).setCell ⟨gs,k*5+2,none⟩ (.int .i64 nx)).setCell ⟨gs,k*5+3,none⟩ (.slice (some ⟨g,0,none⟩) rs.length rs.length)).setCell ⟨gs,k*5+4,none⟩ (.slice (some ⟨h,0,none⟩) hs.length hs.length))):=by
 obtain ⟨cur,hc1,hc2,_⟩:=h1.st.own
 have n1:w.heap.size ≠ gs:=by have:=kn.s; omega
 have n2:w.heap.size+1 ≠ gs:=by have:=kn.s; omega
 have n3:gn ≠ gs:=by
  rintro rfl
  rw [h1.gnb] at hc1
  simp at hc1
 have n4:=ne_e (by decide) h1.fe hc1
 have n5:=ne_b (by decide) h1.fb hc1
 have n6:=cst.apart (by decide) h1.so.own hc1
 have q1:=kn.s
 have q2:=kn.sl
 have q3:=hX.hs
 have kb:∀ (b:Nat) (ob:Obj),w1.heap[b]?=some ob->b ≠ gs->(((((w1.setCell ⟨gs,k*5,none⟩ (.string nm)).setCell ⟨gs,k*5+1,none⟩ (.int .i64 lo)).setCell ⟨gs,k*5+2,none⟩ (.int .i64 nx)).setCell ⟨gs,k*5+3,none⟩ (.slice (some ⟨g,0,none⟩) rs.length rs.length)).setCell ⟨gs,k*5+4,none⟩ (.slice (some ⟨h,0,none⟩) hs.length hs.length)).heap[b]?=some ob:=fun b ob h hne=>boff (boff (boff (boff (boff h _ _ _ hne) _ _ _ hne) _ _ _ hne) _ _ _ hne) _ _ _ hne
 obtain ⟨c1,k1,k2⟩:=h1.fe
 obtain ⟨c2,j1,j2⟩:=h1.fb
 refine ⟨((((h1.bel.setCell (by show w.heap.size <= gs; omega) _).setCell (by show w.heap.size <= gs; omega) _).setCell (by show w.heap.size <= gs; omega) _).setCell (by show w.heap.size <= gs; omega) _).setCell (by show w.heap.size <= gs; omega) _,kb _ _ h1.box n1,kb _ _ h1.res n2,kb _ _ h1.gnb n3,⟨c1,kb _ _ k1 n4,k2⟩,⟨c2,kb _ _ j1 n5,j2⟩,?_,?_,by simp only [World.size_setCell]; exact h1.hs⟩
 ·exact ((((h1.so.set q2 n6 _).set q2 n6 _).set q2 n6 _).set q2 n6 _).set q2 n6 _
 ·exact h1.st.more (fun j r hj hr b hb=>by have:=(hX.st.mine j r hj hr).lt hb; omega) (by omega) hk (by omega) (by omega) hgh o1 o2
theorem Jv.fin (kn:Kn w ge gb gq gs gn S0) (hS:S0 <= S1) (h:Jv w es bs qs ts a0 b0 q0 t0 ec bc qc tc ge gb gq gs gn S0 S1 ks us ts.length W):Hid (Cg ((((W.setCell ⟨w.heap.size+1,0,none⟩ (.slice (some ⟨ge,0,none⟩) es.length es.length)).setCell ⟨w.heap.size+1,1,none⟩ (.slice (some ⟨gb,0,none⟩) bs.length bs.length)).setCell ⟨w.heap.size+1,2,none⟩ (.slice (some ⟨gq,0,none⟩) qs.length qs.length)).setCell ⟨w.heap.size+1,3,none⟩ (.slice (some ⟨gs,0,none⟩) ts.length ts.length)) (w.heap.size+2) es bs qs ts ge gb gq gs ks us/\Below w.heap.size w ((((W.setCell ⟨w.heap.size+1,0,none⟩ (.slice (some ⟨ge,0,none⟩) es.length es.length)).setCell ⟨w.heap.size+1,1,none⟩ (.slice (some ⟨gb,0,none⟩) bs.length bs.length)).setCell ⟨w.heap.size+1,2,none⟩ (.slice (some ⟨gq,0,none⟩) qs.length qs.length)).setCell ⟨w.heap.size+1,3,none⟩ (.slice (some ⟨gs,0,none⟩) ts.length ts.length))):=by
 have k1:=kn.e
 have k2:=kn.b
 have k3:=kn.q
 have k4:=kn.s
 have k5:=kn.ql
 have k6:=kn.sl
 have hx:w.heap.size <= w.heap.size+1:=by omega
 refine ⟨⟨?_,?_,?_,?_,k1,k2,k3,k4,kn.eb⟩,(((h.bel.setCell hx _).setCell hx _).setCell hx _).setCell hx _⟩
 ·have hne:ge ≠ w.heap.size+1:=by omega
  exact ro2.keptE (ro2.keptE (ro2.keptE (ro2.keptE h.fe (Below.heap_setCell _ _ _ _ hne)) (Below.heap_setCell _ _ _ _ hne)) (Below.heap_setCell _ _ _ _ hne)) (Below.heap_setCell _ _ _ _ hne)
 ·have hne:gb ≠ w.heap.size+1:=by omega
  exact ro2.keptB (ro2.keptB (ro2.keptB (ro2.keptB h.fb (Below.heap_setCell _ _ _ _ hne)) (Below.heap_setCell _ _ _ _ hne)) (Below.heap_setCell _ _ _ _ hne)) (Below.heap_setCell _ _ _ _ hne)
 ·have h1:w.heap.size+1 < S0:=by omega
  have h2:gq ≠ w.heap.size+1:=by omega
  exact ((((h.so.set h1 h2 _).set h1 h2 _).set h1 h2 _).set h1 h2 _).mono (by omega)
 ·have h1:w.heap.size+1 < S1:=by omega
  have h2:gs ≠ w.heap.size+1:=by omega
  exact ((((h.st.set h1 h2 _).set h1 h2 _).set h1 h2 _).set h1 h2 _).mono (by omega)
end
theorem copy_core (es:List Ex) (bs:List Bi) (qs:List qu.E) (ts:List su.E) (a0 b0 q0 t0 ec bc qc tc:Nat) (w:World) (F:cb.Fit es bs qs ts) (hE:RE w a0 es) (hB:RB w b0 bs) (hQ:qu.R w q0 qs) (hT:su.R w t0 ts) (hqr:∀ r ∈ qs,∃ g h,r.ra=some ⟨g,0,none⟩/\r.ha=some ⟨h,0,none⟩/\Row flM.c 5 w w.heap.size r.ra r.rs/\Row flH.c 7 w w.heap.size r.ha r.hs) (htr:∀ r ∈ ts,cb.At w r) :
  Calls Tryz.prog 21 #[.agg #[.slice (some ⟨a0,0,none⟩) es.length ec,.slice (some ⟨b0,0,none⟩) bs.length bc,.slice (some ⟨q0,0,none⟩) qs.length qc,.slice (some ⟨t0,0,none⟩) ts.length tc]] w fun r w'=>∃ (ge gb gq gs:Nat) (ks:List qu.E) (us:List su.E),r=.returned (.agg #[.slice (some ⟨ge,0,none⟩) es.length es.length,.slice (some ⟨gb,0,none⟩) bs.length bs.length,.slice (some ⟨gq,0,none⟩) qs.length qs.length,.slice (some ⟨gs,0,none⟩) ts.length ts.length])/\Cg w' (w.heap.size+2) es bs qs ts ge gb gq gs ks us/\Below w.heap.size w w':=by
 have h0:D w es bs qs ts a0 b0 q0 t0 ec bc qc tc ⟨0,0,0,0,0,0,0,0,0⟩ false false false false false false ((w.alloc (.cells #[.slice (some ⟨a0,0,none⟩) es.length ec,.slice (some ⟨b0,0,none⟩) bs.length bc,.slice (some ⟨q0,0,none⟩) qs.length qc,.slice (some ⟨t0,0,none⟩) ts.length tc] 38)).alloc (.cells #[.slice none 0 0,.slice none 0 0,.slice none 0 0,.slice none 0 0] 38)).drew:=by
  refine ⟨(((Below.refl _ _).alloc (Nat.le_refl _) _).alloc (by simp) _).drew,?_,?_,by simp,by simp,by simp,by simp,by simp,by simp⟩
  ·exact bold (bnew w _ _) _
  ·have:=bnew (w.alloc (.cells #[.slice (some ⟨a0,0,none⟩) es.length ec,.slice (some ⟨b0,0,none⟩) bs.length bc,.slice (some ⟨q0,0,none⟩) qs.length qc,.slice (some ⟨t0,0,none⟩) ts.length tc] 38)) #[.slice none 0 0,.slice none 0 0,.slice none 0 0,.slice none 0 0] 38
   rw [World.size_alloc] at this
   exact this
 have HF:Hid (cb.Fit es bs qs ts):=F
 have HQ:Hid (qu.R w q0 qs):=hQ
 have HT:Hid (su.R w t0 ts):=hT
 have HQR:Hid (∀ r ∈ qs,∃ g h,r.ra=some ⟨g,0,none⟩/\r.ha=some ⟨h,0,none⟩/\Row flM.c 5 w w.heap.size r.ra r.rs/\Row flH.c 7 w w.heap.size r.ha r.hs):=hqr
 have HTR:Hid (∀ r ∈ ts,cb.At w r):=htr
 have hql:=F.ql
 have htl:=F.tl
 have hcr:=fun (W:World) (hb:Below w.heap.size w W)=>cr.copy_routes es bs a0 b0 ec bc W HF.out.el HF.out.bl HF.out.eb HF.out.bb (hE.below hb) (hB.below hb)
 clear hE hB F hQ hT hqr htr
 go_enter Tryz.func21,Tryz.ntmps21
 go_wp2
 refine dk.region_gsets (ws w.heap.size es bs qs ts a0 b0 q0 t0 ec bc qc tc) [8,9,10,11,12,13,14,15,16,17,18,19,3] (Cl w es bs qs ts a0 b0 q0 t0 ec bc qc tc) ⟨0,0,0,0,0,0,0,0,0⟩ (by kernel_rfl) (by kernel_rfl) (fun _=>rfl) (by kernel_rfl) h0 ?each ?fin
 case each =>
  refine ⟨quiet (by decide) (by simp) (.pointer (some ⟨w.heap.size,0,none⟩)) (by rintro s _ ⟨⟩; exact dk.sets_on _ (by simp) _ rfl) (fun s W h=>by simp [execOp,go_sem,Act.eval,dk.sets_get,ws,List.lookup]),?_⟩
  refine ⟨quiet (by decide) (by simp) (.agg #[.slice (some ⟨a0,0,none⟩) es.length ec,.slice (some ⟨b0,0,none⟩) bs.length bc]) (by rintro s _ ⟨⟩; exact dk.sets_on _ (by simp) _ rfl) (fun s W h=>by have c:W.cell? ⟨w.heap.size,0,none⟩=some (.slice (some ⟨a0,0,none⟩) es.length ec):=bcell h rfl; have d:W.cell? ⟨w.heap.size,1,none⟩=some (.slice (some ⟨b0,0,none⟩) bs.length bc):=bcell h rfl; simp [execOp,go_sem,Act.eval,dk.sets_get,ws,List.lookup,c,d]),?_⟩
  refine ⟨st2 (by simp) rfl rfl hcr,?_⟩
  refine ⟨quiet (by decide) (by simp) (.pointer (some ⟨w.heap.size,2,none⟩)) (by rintro s _ ⟨⟩; exact dk.sets_on _ (by simp) _ rfl) (fun s W h=>by simp [execOp,go_sem,Act.eval,dk.sets_get,ws,List.lookup]),?_⟩
  refine ⟨quiet (by decide) (by simp) (.slice (some ⟨q0,0,none⟩) qs.length qc) (by rintro s _ ⟨⟩; exact dk.sets_on _ (by simp) _ rfl) (fun s W h=>by have c:W.cell? ⟨w.heap.size,2,none⟩=some (.slice (some ⟨q0,0,none⟩) qs.length qc):=bcell h rfl; simp [execOp,go_sem,Act.eval,dk.sets_get,ws,List.lookup,c]),?_⟩
  refine ⟨quiet (by decide) (by simp) (.int .i64 qs.length) (by rintro s _ ⟨⟩; exact dk.sets_on _ (by simp) _ rfl) (fun s W h=>by simp [go_sem,Act.eval,dk.sets_get,ws,List.lookup]),?_⟩
  refine ⟨st6 hql (by simp) rfl rfl,?_⟩
  refine ⟨quiet (by decide) (by simp) (.pointer (some ⟨w.heap.size,3,none⟩)) (by rintro s _ ⟨⟩; exact dk.sets_on _ (by simp) _ rfl) (fun s W h=>by simp [execOp,go_sem,Act.eval,dk.sets_get,ws,List.lookup]),?_⟩
  refine ⟨quiet (by decide) (by simp) (.slice (some ⟨t0,0,none⟩) ts.length tc) (by rintro s _ ⟨⟩; exact dk.sets_on _ (by simp) _ rfl) (fun s W h=>by have c:W.cell? ⟨w.heap.size,3,none⟩=some (.slice (some ⟨t0,0,none⟩) ts.length tc):=bcell h rfl; simp [execOp,go_sem,Act.eval,dk.sets_get,ws,List.lookup,c]),?_⟩
  refine ⟨quiet (by decide) (by simp) (.int .i64 ts.length) (by rintro s _ ⟨⟩; exact dk.sets_on _ (by simp) _ rfl) (fun s W h=>by simp [go_sem,Act.eval,dk.sets_get,ws,List.lookup]),?_⟩
  exact ⟨st10 htl (by simp) rfl rfl,st11 (by simp) rfl rfl ⟨⟨2,.data⟩,by simp,rfl,rfl⟩ ⟨⟨6,.data⟩,by simp,rfl,rfl⟩ ⟨⟨10,.data⟩,by simp,rfl,rfl⟩,st12 (by simp) rfl rfl,st13 (by simp) rfl rfl ⟨⟨11,.data⟩,by simp,rfl,rfl⟩ ⟨⟨12,.data⟩,by simp,rfl,rfl⟩,trivial⟩
 case fin =>
  intro g L W hL hC
  have hD:D w es bs qs ts a0 b0 q0 t0 ec bc qc tc g true true true true true true W:=by
   have h:D w es bs qs ts a0 b0 q0 t0 ec bc qc tc g (L 2) (L 6) (L 10) (L 11) (L 12) (L 13) W:=hC
   rw [hL 2 (by decide),hL 6 (by decide),hL 10 (by decide),hL 11 (by decide),hL 12 (by decide),hL 13 (by decide)] at h
   exact h
  obtain ⟨_,_,_,e1,e2,e3,e4⟩:=hD.at11 rfl
  have hgn:=hD.at12 rfl
  rw [e1,e2,e3,e4] at hgn
  simp only [dk.sets,ws,e1,e2,e3,e4]
  obtain ⟨ge,gb,gq,gs,gn,xe,xb,xq,xs⟩:=g
  simp only at hD hgn e1 e2 e3 e4
  have x2:W.cell? ⟨w.heap.size,2,none⟩=some (.slice (some ⟨q0,0,none⟩) qs.length qc):=bcell hD.box rfl
  have HI:Hid (Iv w es bs qs ts a0 b0 q0 t0 ec bc qc tc ge gb gq gs gn W.heap.size qs 0 W):=⟨hD.bel,hD.box,hD.res,hgn.1,(hD.row2 rfl).1,(hD.row2 rfl).2.1,⟨rfl,(hD.row6 rfl).1,fun j r hj=>by omega,fun j r s hj=>by omega,fun i j r s hij hj=>by omega⟩,(hD.row10 rfl).1,Nat.le_refl _⟩
  have HK:Hid (Kn w ge gb gq gs gn W.heap.size):=⟨(hD.row2 rfl).2.2.1,(hD.row2 rfl).2.2.2.1,(hD.row2 rfl).2.2.2.2,(hD.row6 rfl).2,(hD.row10 rfl).2,hgn.2,(hD.row6 rfl).1.lt,(hD.row10 rfl).1.lt⟩
  obtain ⟨S0,hS0⟩:∃ S0,W.heap.size=S0:=⟨_,rfl⟩
  rw [hS0] at HI HK
  clear hD hC hL h0 e1 e2 e3 e4 hgn hcr hS0
  go_wp2
  go_loopw [23,4,5] (fun x _ _ wr=>∃ (k:Nat) (ks:List qu.E),k <= qs.length/\x=.int .i64 k/\Hid (Iv w es bs qs ts a0 b0 q0 t0 ec bc qc tc ge gb gq gs gn S0 ks k wr)) (fun x _ _ _=>qs.length - (intOf x).toNat)
  case atStart=>exact ⟨0,qs,Nat.zero_le _,rfl,HI⟩
  case round =>
   obtain ⟨k,ks,hk,rfl,hinv⟩:=hrel
   clear x2 HI
   by_cases hkl:k < qs.length
   ·have HG:Hid (qs[k]?=some qs[k]):=List.getElem?_eq_getElem hkl
    have hmem:qs[k] ∈ qs:=List.getElem_mem hkl
    obtain ⟨⟨nm,nx,ra,rc,rs,ha,hc,hs⟩,he⟩:∃ e,qs[k]=e:=⟨_,rfl⟩
    rw [he] at HG hmem
    obtain ⟨c0,c1,c2,c3⟩:=(HQ.out.below hinv.out.bel).2 k _ HG.out
    obtain ⟨gr,gh,h1,h2,r1,r2⟩:=HQR.out _ hmem
    have f:=HF.out.qf _ hmem
    simp only at c0 c1 c2 c3 h1 h2 r1 r2 f
    subst h1 h2
    have hst:=fl.bl wr (.cells #[.string nm,.int .i64 nx,.slice (some ⟨gr,0,none⟩) rs.length rc,.slice (some ⟨gh,0,none⟩) hs.length hc] 58)
    have hIX:=hinv.out.on hst
    have hcq:=cqu.copy_queue nm nx rs hs gr gh rc hc (wr.alloc (.cells #[.string nm,.int .i64 nx,.slice (some ⟨gr,0,none⟩) rs.length rc,.slice (some ⟨gh,0,none⟩) hs.length hc] 58)).drew f.ns f.el f.ml f.eb f.mb (row_on r1 hIX.bel.drew) (row_on r2 hIX.bel.drew)
    have hbx:(wr.alloc (.cells #[.string nm,.int .i64 nx,.slice (some ⟨gr,0,none⟩) rs.length rc,.slice (some ⟨gh,0,none⟩) hs.length hc] 58)).heap[wr.heap.size]?=some (.cells #[.string nm,.int .i64 nx,.slice (some ⟨gr,0,none⟩) rs.length rc,.slice (some ⟨gh,0,none⟩) hs.length hc] 58 (0,0)):=bnew wr _ _
    have n2:(wr.alloc (.cells #[.string nm,.int .i64 nx,.slice (some ⟨gr,0,none⟩) rs.length rc,.slice (some ⟨gh,0,none⟩) hs.length hc] 58)).cell? ⟨gn,2,none⟩=some (.slice (some ⟨gq,0,none⟩) qs.length qs.length):=bcell hIX.gnb rfl
    obtain ⟨y0,y1,y2,y3⟩:=fl.q4 hbx
    obtain ⟨X,hX⟩:∃ X,(wr.alloc (.cells #[.string nm,.int .i64 nx,.slice (some ⟨gr,0,none⟩) rs.length rc,.slice (some ⟨gh,0,none⟩) hs.length hc] 58))=X:=⟨_,rfl⟩
    rw [hX] at hst hIX hcq hbx n2 y0 y1 y2 y3
    have HIX:Hid (Iv w es bs qs ts a0 b0 q0 t0 ec bc qc tc ge gb gq gs gn S0 ks k X.drew):=hIX.on (Below.refl _ _).drew
    have i2:(k:Int) < (qs.length:Int):=by omega
    clear he hmem hIX hst hbx r1 r2 f hinv
    go_wp2
    try rw [hX]
    clear hX
    go_region_with (go_at_call 52; refine hcq.mono ?_; rintro e w1 ⟨g,h,rfl,hg,hh,hgh,o1,o2,hb1⟩; have hI1:=HIX.out.on hb1; have n2':w1.cell? ⟨gn,2,none⟩=some (.slice (some ⟨gq,0,none⟩) qs.length qs.length):=bcell hI1.gnb rfl; have hl1:=hI1.so.len; obtain ⟨v0,g0⟩:=hI1.so.own.at (k*4) (by omega); obtain ⟨v1,g1⟩:=hI1.so.own.at (k*4+1) (by omega); obtain ⟨v2,g2⟩:=hI1.so.own.at (k*4+2) (by omega); obtain ⟨v3,g3⟩:=hI1.so.own.at (k*4+3) (by omega); have z0:=hI1.so.own.free (k*4); have z1:=hI1.so.own.free (k*4+1); have z2:=hI1.so.own.free (k*4+2); have z3:=hI1.so.own.free (k*4+3); have HN:=Iv.put HK.out HIX.out hI1 HG.out hg hh hgh o1 o2; clear hI1 o1 o2 hl1)
    all_goals
     clear hcq
     go_wp2
     go_roundw
     case rel=>exact ⟨k+1,_,by omega,by go_num,HN⟩
     case measure=>simp [intOf]; omega
   ·obtain rfl:k=qs.length:=by omega
    have HJ:Hid (Jv w es bs qs ts a0 b0 q0 t0 ec bc qc tc ge gb gq gs gn S0 wr.heap.size ks ts 0 wr):=⟨hinv.out.bel,hinv.out.box,hinv.out.res,hinv.out.gnb,hinv.out.fe,hinv.out.fb,hinv.out.so,⟨rfl,hinv.out.os,fun j r hj=>by omega,fun j r s hj=>by omega,fun i j r s hij hj=>by omega⟩,Nat.le_refl _⟩
    have hS1:S0 <= wr.heap.size:=hinv.out.hs
    have x3:wr.cell? ⟨w.heap.size,3,none⟩=some (.slice (some ⟨t0,0,none⟩) ts.length tc):=bcell hinv.out.box rfl
    obtain ⟨S1,hS⟩:∃ S1,wr.heap.size=S1:=⟨_,rfl⟩
    rw [hS] at HJ hS1
    obtain ⟨w9,hw9⟩:∃ w9,wr=w9:=⟨_,rfl⟩
    subst hw9
    clear hinv hS hk
    go_wp2
    go_loopw [38,6,7] (fun x _ _ wr=>∃ (k:Nat) (us:List su.E),k <= ts.length/\x=.int .i64 k/\Hid (Jv w es bs qs ts a0 b0 q0 t0 ec bc qc tc ge gb gq gs gn S0 S1 ks us k wr)) (fun x _ _ _=>ts.length - (intOf x).toNat)
    case atStart=>exact ⟨0,ts,Nat.zero_le _,rfl,HJ⟩
    case round =>
     obtain ⟨k,us,hk,rfl,hinv⟩:=hrel
     clear x3 HJ
     by_cases hkl:k < ts.length
     ·have HG:Hid (ts[k]?=some ts[k]):=List.getElem?_eq_getElem hkl
      have hmem:ts[k] ∈ ts:=List.getElem_mem hkl
      obtain ⟨⟨nm,lo,nx,ra,rc,rs,ha,hc,hs⟩,he⟩:∃ e,ts[k]=e:=⟨_,rfl⟩
      rw [he] at HG hmem
      obtain ⟨c0,c1,c2,c3,c4⟩:=(HT.out.below hinv.out.bel).2 k _ HG.out
      obtain ⟨gr,gh,h1,h2,r1,r2⟩:=HTR.out _ hmem
      have f:=HF.out.tf _ hmem
      simp only at c0 c1 c2 c3 c4 h1 h2 r1 r2 f
      subst h1 h2
      have hst:=fl.bl wr (.cells #[.string nm,.int .i64 lo,.int .i64 nx,.slice (some ⟨gr,0,none⟩) rs.length rc,.slice (some ⟨gh,0,none⟩) hs.length hc] 54)
      have hIX:=hinv.out.on hst
      have hcq:=cst.copy_stream nm lo nx rs hs gr gh rc hc (wr.alloc (.cells #[.string nm,.int .i64 lo,.int .i64 nx,.slice (some ⟨gr,0,none⟩) rs.length rc,.slice (some ⟨gh,0,none⟩) hs.length hc] 54)).drew f (r1.below hIX.bel.drew) (r2.below hIX.bel.drew)
      have hbx:(wr.alloc (.cells #[.string nm,.int .i64 lo,.int .i64 nx,.slice (some ⟨gr,0,none⟩) rs.length rc,.slice (some ⟨gh,0,none⟩) hs.length hc] 54)).heap[wr.heap.size]?=some (.cells #[.string nm,.int .i64 lo,.int .i64 nx,.slice (some ⟨gr,0,none⟩) rs.length rc,.slice (some ⟨gh,0,none⟩) hs.length hc] 54 (0,0)):=bnew wr _ _
      have n2:(wr.alloc (.cells #[.string nm,.int .i64 lo,.int .i64 nx,.slice (some ⟨gr,0,none⟩) rs.length rc,.slice (some ⟨gh,0,none⟩) hs.length hc] 54)).cell? ⟨gn,3,none⟩=some (.slice (some ⟨gs,0,none⟩) ts.length ts.length):=bcell hIX.gnb rfl
      obtain ⟨y0,y1,y2,y3,y4⟩:=fl.q5 hbx
      obtain ⟨X,hX⟩:∃ X,wr.alloc (.cells #[.string nm,.int .i64 lo,.int .i64 nx,.slice (some ⟨gr,0,none⟩) rs.length rc,.slice (some ⟨gh,0,none⟩) hs.length hc] 54)=X:=⟨_,rfl⟩
      rw [hX] at hst hIX hcq hbx n2 y0 y1 y2 y3 y4
      have HIX:Hid (Jv w es bs qs ts a0 b0 q0 t0 ec bc qc tc ge gb gq gs gn S0 S1 ks us k X.drew):=hIX.on (Below.refl _ _).drew
      have i2:(k:Int) < (ts.length:Int):=by omega
      clear he hmem hIX hst hbx r1 r2 f hinv
      go_wp2
      try rw [hX]
      clear hX
      go_region_with (go_at_call 53; refine hcq.mono ?_; rintro e w1 ⟨g,h,rfl,hg,hh,hgh,o1,o2,hb1⟩; have hI1:=HIX.out.on hb1; have n2':w1.cell? ⟨gn,3,none⟩=some (.slice (some ⟨gs,0,none⟩) ts.length ts.length):=bcell hI1.gnb rfl; have hl1:=hI1.st.len; obtain ⟨v0,g0⟩:=hI1.st.own.at (k*5) (by omega); obtain ⟨v1,g1⟩:=hI1.st.own.at (k*5+1) (by omega); obtain ⟨v2,g2⟩:=hI1.st.own.at (k*5+2) (by omega); obtain ⟨v3,g3⟩:=hI1.st.own.at (k*5+3) (by omega); obtain ⟨v4,g4⟩:=hI1.st.own.at (k*5+4) (by omega); have z0:=hI1.st.own.free (k*5); have z1:=hI1.st.own.free (k*5+1); have z2:=hI1.st.own.free (k*5+2); have z3:=hI1.st.own.free (k*5+3); have z4:=hI1.st.own.free (k*5+4); have HN:=Jv.put HK.out hS1 HIX.out hI1 HG.out hg hh hgh o1 o2; clear hI1 o1 o2 hl1)
      all_goals
       clear hcq
       go_wp2
       go_roundw
       case rel=>exact ⟨k+1,_,by omega,by go_num,HN⟩
       case measure=>simp [intOf]; omega
     ·obtain rfl:k=ts.length:=by omega
      have hI:=hinv.out
      obtain ⟨n0,n1,n2,n3⟩:=fl.q4 hI.gnb
      obtain ⟨z0,z1,z2,z3⟩:=fl.q4 hI.res
      obtain ⟨f0,f1,f2,f3⟩:=fl.r4 hI.res
      have HFN:=Jv.fin HK.out hS1 hI
      clear hI hinv
      go_wp2
      exact bodyPost_ret (v:=.agg #[.slice (some ⟨ge,0,none⟩) es.length es.length,.slice (some ⟨gb,0,none⟩) bs.length bs.length,.slice (some ⟨gq,0,none⟩) qs.length qs.length,.slice (some ⟨gs,0,none⟩) ts.length ts.length]) (by simp [results,Tryz.results21,go_sem,z0,z1,z2,z3]) rfl ⟨ge,gb,gq,gs,ks,us,rfl,HFN.out.1,HFN.out.2⟩
end Go.Proofs.YtaoefccgdfcchaaGreat.cco
