/- SpecCopy, StreamReadSpec, SpecCopyS. -/
import Derived.Test.YteoojodkkjepeaaGreatKn34
import Derived.Test.YteoojodkkjepeaaGreatKn24
import Derived.Test.YteoojodkkjepeaaGreatKn27
import Derived.Test.YteoojodkkjepeaaGreatKn19
set_option maxRecDepth 100000
set_option maxHeartbeats 8000000
set_option linter.unusedVariables false
namespace Go.Proofs.YteoojodkkjepeaaGreat.sc
open ChangeShapes WideShapes ChangeAt RowKit rr ra rt fl su
theorem form {w:World}{B n:Nat}{U:TypeId}{s:Nat}{v:Value}{xs:List Value}(h:w.ownsRow B U s v n xs)(hv:v≠.slice none 0 0):∃ g cap,v=.slice (some ⟨g,0,none⟩) n cap/\B <= g/\g<w.heap.size:=by
 obtain⟨_,⟨rfl,h0⟩ | ⟨g,cap,cur,rfl,hB,hg,_⟩⟩:=h
 ·exact absurd rfl hv
 ·exact⟨g,cap,rfl,hB,(Array.getElem?_eq_some_iff.1 hg).1⟩
structure G where
 e0:Nat
 b0:Nat
 ve:Value
 vb:Value
 xe:Value
 xb:Value
def ws (s n m a0 b0 ec bc:Nat)(g:G):List (Nat × Value):=[(3,.slice (some ⟨g.e0,0,none⟩) 0 0),(4,.pointer (some ⟨s,0,none⟩)),(5,.slice (some ⟨a0,0,none⟩) n ec),(6,g.ve),(7,.slice (some ⟨g.b0,0,none⟩) 0 0),(8,.pointer (some ⟨s,1,none⟩)),(9,.slice (some ⟨b0,0,none⟩) m bc),(10,g.vb),(11,.agg #[g.xe,g.xb])]
structure D (w:World)(es:List Ex)(bs:List Bi)(a0 b0 ec bc:Nat)(g:G)(c0 c3 c4 c7 c8 c9:Bool)(W:World):Prop where
 bel:Below w.heap.size w W
 box:W.heap[w.heap.size]?=some (.cells #[.slice (some ⟨a0,0,none⟩) es.length ec,.slice (some ⟨b0,0,none⟩) bs.length bc] 35 (0,0))
 res:W.heap[w.heap.size+1]?=some (.cells (if c9 then #[g.xe,g.xb] else #[.slice none 0 0,.slice none 0 0]) 35 (0,0))
 at0:c0=true->c3=false->W.ownsRow (w.heap.size+2) 125 2 (.slice (some ⟨g.e0,0,none⟩) 0 0) 0 []
 at3:c3=true->c0=true/\W.ownsRow (w.heap.size+2) 125 2 g.ve es.length (es.flatMap cE)
 at4:c4=true->c7=false->W.ownsRow (w.heap.size+2) 127 3 (.slice (some ⟨g.b0,0,none⟩) 0 0) 0 []
 at7:c7=true->c4=true/\W.ownsRow (w.heap.size+2) 127 3 g.vb bs.length (bs.flatMap cB)
 at8:c8=true->c3=true/\c7=true/\g.xe=g.ve/\g.xb=g.vb
 at9:c9=true->c8=true
 nn:(c3=true->g.ve≠.slice none 0 0)/\(c7=true->g.vb≠.slice none 0 0)
def C (w:World)(es:List Ex)(bs:List Bi)(a0 b0 ec bc:Nat)(g:G)(L:Nat->Bool)(W:World):Prop:=D w es bs a0 b0 ec bc g (L 0) (L 3) (L 4) (L 7) (L 8) (L 9) W
section
variable {w:World} {es:List Ex} {bs:List Bi} {a0 b0 ec bc:Nat} {g:G} {c0 c3 c4 c7 c8 c9:Bool} {W W':World}
theorem D.size (h:D w es bs a0 b0 ec bc g c0 c3 c4 c7 c8 c9 W):w.heap.size+2 <= W.heap.size:=(Array.getElem?_eq_some_iff.1 h.res).1
theorem D.grow {r:Option Nat}(h:D w es bs a0 b0 ec bc g c0 c3 c4 c7 c8 c9 W)(hg:W.grownBy W' r)(hr:∀ b,r=some b->w.heap.size+2 <= b)
  (h0:c0=true->c3=false->(Value.slice (some ⟨g.e0,0,none⟩) 0 0).ownBlock=none ∨ (Value.slice (some ⟨g.e0,0,none⟩) 0 0).ownBlock≠r) (h3:c3=true->g.ve.ownBlock=none ∨ g.ve.ownBlock≠r)
  (h4:c4=true->c7=false->(Value.slice (some ⟨g.b0,0,none⟩) 0 0).ownBlock=none ∨ (Value.slice (some ⟨g.b0,0,none⟩) 0 0).ownBlock≠r) (h7:c7=true->g.vb.ownBlock=none ∨ g.vb.ownBlock≠r):D w es bs a0 b0 ec bc g c0 c3 c4 c7 c8 c9 W':=by
 refine⟨h.bel.grown hg h.bel.size fun b hb=>?_,?_,?_,fun a b=>(h.at0 a b).kept hg (h0 a b),fun a=>⟨(h.at3 a).1,(h.at3 a).2.kept hg (h3 a)⟩,fun a b=>(h.at4 a b).kept hg (h4 a b),fun a=>⟨(h.at7 a).1,(h.at7 a).2.kept hg (h7 a)⟩,h.at8,h.at9,h.nn⟩
 ·have:=hr b hb;omega
 ·rw [hg.block _ (Array.getElem?_eq_some_iff.1 h.box).1 (fun e=>by have:=hr _ e.symm;omega)];exact h.box
 ·rw [hg.block _ (Array.getElem?_eq_some_iff.1 h.res).1 (fun e=>by have:=hr _ e.symm;omega)];exact h.res
theorem D.alloc (h:D w es bs a0 b0 ec bc g c0 c3 c4 c7 c8 c9 W)(o:Obj):D w es bs a0 b0 ec bc g c0 c3 c4 c7 c8 c9 (W.alloc o) :=
 h.grow (r:=none) (World.grownBy_alloc W o none) (fun b e=>by cases e) (fun _ _=>by simp [Value.ownBlock]) (fun _=>by cases g.ve.ownBlock <;> simp) (fun _ _=>by simp [Value.ownBlock]) (fun _=>by cases g.vb.ownBlock <;> simp)
end
section
variable {w:World} {es:List Ex} {bs:List Bi} {a0 b0 ec bc:Nat} {act:Act} {Q:Exit->Act->World->Prop}
theorem quiet {i:Nat}{o:Oper}(hi:i=1 ∨ i=2 ∨ i=5 ∨ i=6)(hsel:∀ cs b,o.op≠.select cs b)(u:Value)(hd:∀ s d,o.dst=some d->(dk.sets act (ws w.heap.size es.length bs.length a0 b0 ec bc s)).tmps[d]?=some u)
  (hrun:∀ s W,W.heap[w.heap.size]?=some (.cells #[.slice (some ⟨a0,0,none⟩) es.length ec,.slice (some ⟨b0,0,none⟩) bs.length bc] 35 (0,0))->(execOp (dk.sets act (ws w.heap.size es.length bs.length a0 b0 ec bc s)).eval o).run Tryz.prog W=.ok (.value u) W):gh.Step Tryz.prog (fun s=>dk.sets act (ws w.heap.size es.length bs.length a0 b0 ec bc s)) (C w es bs a0 b0 ec bc) Q i o:=by
 refine gh.step_val hsel fun s L W hdp h0 hC=>⟨s,u,gh.Agree.refl _ _,hd s,?_⟩
 rw [hrun s W hC.box]
 refine⟨rfl,?_⟩
 unfold C dn.more
 rw [if_neg (by omega),if_neg (by omega),if_neg (by omega),if_neg (by omega),if_neg (by omega),if_neg (by omega)]
 exact hC
theorem st0 {o:Oper}(hsz:11<act.tmps.size)(hop:o.op=.buildSlice 32 0 #[])(hdst:o.dst=some 3):gh.Step Tryz.prog (fun s=>dk.sets act (ws w.heap.size es.length bs.length a0 b0 ec bc s)) (C w es bs a0 b0 ec bc) Q 0 o:=by
 refine gh.step_val (by rw [hop];simp) fun s L W hdp h0 hC=>⟨{ s with e0:=W.heap.size },.slice (some ⟨W.heap.size,0,none⟩) 0 0,dk.agree_sets 0 3 _ hdst rfl rfl,(fun d hd=>by rw [hdst] at hd;cases hd;exact dk.sets_on _ (by omega) _ rfl),?_⟩
 have hrun:(execOp (dk.sets act (ws w.heap.size es.length bs.length a0 b0 ec bc s)).eval o).run Tryz.prog W=.ok (.value (.slice (some ⟨W.heap.size,0,none⟩) 0 0)) (W.alloc (.cells #[] 125)):=by
  simp [execOp,hop,go_sem]
 rw [hrun]
 refine⟨rfl,?_⟩
 have hC:D w es bs a0 b0 ec bc s (L 0) (L 3) (L 4) (L 7) (L 8) (L 9) W:=hC
 show D w es bs a0 b0 ec bc _ true (L 3) (L 4) (L 7) (L 8) (L 9) _
 have l3:L 3=false:=by
  cases h:L 3 with
  | false=>rfl
  | true=>have:=(hC.at3 h).1;rw [h0] at this;cases this
 have h1:=hC.alloc (.cells #[] 125)
 exact⟨h1.bel,h1.box,h1.res,fun _ _=>World.ownsRow_made W #[] 0 hC.size (by unfold maxLen;omega) (by simp),fun e=>(by rw [l3] at e;cases e),h1.at4,h1.at7,h1.at8,h1.at9,h1.nn⟩
theorem st4 {o:Oper}(hsz:11<act.tmps.size)(hop:o.op=.buildSlice 33 0 #[])(hdst:o.dst=some 7):gh.Step Tryz.prog (fun s=>dk.sets act (ws w.heap.size es.length bs.length a0 b0 ec bc s)) (C w es bs a0 b0 ec bc) Q 4 o:=by
 refine gh.step_val (by rw [hop];simp) fun s L W hdp h0 hC=>⟨{ s with b0:=W.heap.size },.slice (some ⟨W.heap.size,0,none⟩) 0 0,dk.agree_sets 4 7 _ hdst rfl rfl,(fun d hd=>by rw [hdst] at hd;cases hd;exact dk.sets_on _ (by omega) _ rfl),?_⟩
 have hrun:(execOp (dk.sets act (ws w.heap.size es.length bs.length a0 b0 ec bc s)).eval o).run Tryz.prog W=.ok (.value (.slice (some ⟨W.heap.size,0,none⟩) 0 0)) (W.alloc (.cells #[] 127)):=by
  simp [execOp,hop,go_sem]
 rw [hrun]
 refine⟨rfl,?_⟩
 have hC:D w es bs a0 b0 ec bc s (L 0) (L 3) (L 4) (L 7) (L 8) (L 9) W:=hC
 show D w es bs a0 b0 ec bc _ (L 0) (L 3) true (L 7) (L 8) (L 9) _
 have l7:L 7=false:=by
  cases h:L 7 with
  | false=>rfl
  | true=>have:=(hC.at7 h).1;rw [h0] at this;cases this
 have h1:=hC.alloc (.cells #[] 127)
 exact⟨h1.bel,h1.box,h1.res,h1.at0,h1.at3,fun _ _=>World.ownsRow_made W #[] 0 hC.size (by unfold maxLen;omega) (by simp),fun e=>(by rw [l7] at e;cases e),h1.at8,h1.at9,h1.nn⟩
theorem st3 {o:Oper}(hl:es.length <= 1048576)(hR:RE w a0 es)(hsz:11<act.tmps.size)(hop:o.op=.call { callee:=.builtin .append,args:=#[.tmp 3,.tmp 5],argTypes:=#[32,32] })(hdst:o.dst=some 6)(hdp0:∃ e∈o.after,Region.binds .any e=true/\e.on=0):gh.Step Tryz.prog (fun s=>dk.sets act (ws w.heap.size es.length bs.length a0 b0 ec bc s)) (C w es bs a0 b0 ec bc) Q 3 o:=by
 refine gh.step_val (by rw [hop];simp) fun s L W hdp h0 hC=>?_
 obtain⟨xp,mp,yp,zp⟩:=hdp0
 have lp:=hdp xp mp yp
 rw [zp] at lp
 have hC:D w es bs a0 b0 ec bc s (L 0) (L 3) (L 4) (L 7) (L 8) (L 9) W:=hC
 have l8:L 8=false:=by
  cases h:L 8 with
  | false=>rfl
  | true=>have:=(hC.at8 h).1;rw [h0] at this;cases this
 have l9:L 9=false:=by
  cases h:L 9 with
  | false=>rfl
  | true=>have:=hC.at9 h;rw [l8] at this;cases this
 have hold:=hC.at0 lp h0
 obtain⟨i0,hi,hz0,hz1,hz2⟩:=su.infoE
 have hnews:∀ j u,(es.flatMap cE)[j]?=some u->W.cell? ((⟨a0,0,none⟩:Addr).add j)=some u:=fun j u hu=>by
  obtain⟨i,e,r,h1,h2,h3⟩:=flat_get cE_len es j u hu
  have d:=(hR.below hC.bel).2 i e h1
  rw [show (⟨a0,0,none⟩:Addr).add j=⟨a0,j,none⟩ by unfold Addr.add;split <;> simp_all,h3]
  match r,h2 with
   | 0,h2=>simp [cE] at h2;subst h2;exact d.1
   | 1,h2=>simp [cE] at h2;subst h2;exact d.2
   | r+2,h2=>simp [cE] at h2
 have h1c:∀ u∈es.flatMap cE,u.oneCell'=true:=fun u hu=>by
  obtain⟨e,_,he⟩:=List.mem_flatMap.1 hu
  simp [cE] at he
  rcases he with rfl | rfl <;> rfl
 obtain⟨v',w',hr,ho,hg,hnil⟩:=run_append_own (P:=Tryz.prog) W (w.heap.size+2) 32 o.type 125 i0 _ 2 24 Tryz.underlying32 hi hz0 hz1 hz2 rfl (by omega) _ 0 [] hold ⟨a0,0,none⟩ es.length ec (es.flatMap cE) (flat_len cE_len es) hnews h1c (by unfold maxLen;omega) (by omega) hC.size
 rw [Nat.zero_add,List.nil_append] at ho
 refine⟨{ s with ve:=v' },v',dk.agree_sets 3 6 _ hdst rfl rfl,(fun d hd=>by rw [hdst] at hd;cases hd;exact dk.sets_on _ (by omega) _ rfl),?_⟩
 have e1:(dk.sets act (ws w.heap.size es.length bs.length a0 b0 ec bc s)).eval (.tmp 3)=.slice (some ⟨s.e0,0,none⟩) 0 0:=dk.eval_on _ _ (by omega) rfl
 have e2:(dk.sets act (ws w.heap.size es.length bs.length a0 b0 ec bc s)).eval (.tmp 5)=.slice (some ⟨a0,0,none⟩) es.length ec:=dk.eval_on _ _ (by omega) rfl
 have hrun:(execOp (dk.sets act (ws w.heap.size es.length bs.length a0 b0 ec bc s)).eval o).run Tryz.prog W=.ok (.value v') w':=by
  unfold execOp
  simp only [hop,resolve,invoke,builtin,Sem.run_bind,Sem.run_pure,Result.andThen_ok,List.map_toArray,List.map_cons,List.map_nil,e1,e2,hr]
 rw [hrun]
 refine⟨rfl,?_⟩
 show D w es bs a0 b0 ec bc _ (L 0) true (L 4) (L 7) (L 8) (L 9) _
 have hb:∀ b,(Value.slice (some ⟨s.e0,0,none⟩) 0 0).ownBlock=some b->w.heap.size+2 <= b:=fun b hb=>(hold.lt b hb).1
 refine⟨?_,?_,?_,fun _ e=>(by cases e),fun _=>⟨lp,ho⟩,fun e f=>(hC.at4 e f).kept hg (apartOO (hC.at4 e f) hold (by decide)),fun e=>⟨(hC.at7 e).1,(hC.at7 e).2.kept hg (apartOO (hC.at7 e).2 hold (by decide))⟩,fun e=>(by rw [l8] at e;cases e),fun e=>(by rw [l9] at e;cases e),fun _ e=>(by have:=hnil.1 e;cases this.1),hC.nn.2⟩
 ·exact hC.bel.grown hg hC.bel.size fun b hb'=>by have:=hb b hb';omega
 ·rw [hg.block _ (Array.getElem?_eq_some_iff.1 hC.box).1 (fun e=>by have:=hb _ e.symm;omega)];exact hC.box
 ·have hrs:=hC.res
  rw [l9] at hrs ⊢
  rw [hg.block _ (Array.getElem?_eq_some_iff.1 hrs).1 (fun e=>by have:=hb _ e.symm;omega)]
  exact hrs
theorem st7 {o:Oper}(hl:bs.length <= 1048576)(hR:RB w b0 bs)(hsz:11<act.tmps.size)(hop:o.op=.call { callee:=.builtin .append,args:=#[.tmp 7,.tmp 9],argTypes:=#[33,33] })(hdst:o.dst=some 10)(hdp0:∃ e∈o.after,Region.binds .any e=true/\e.on=4):gh.Step Tryz.prog (fun s=>dk.sets act (ws w.heap.size es.length bs.length a0 b0 ec bc s)) (C w es bs a0 b0 ec bc) Q 7 o:=by
 refine gh.step_val (by rw [hop];simp) fun s L W hdp h0 hC=>?_
 obtain⟨xp,mp,yp,zp⟩:=hdp0
 have lp:=hdp xp mp yp
 rw [zp] at lp
 have hC:D w es bs a0 b0 ec bc s (L 0) (L 3) (L 4) (L 7) (L 8) (L 9) W:=hC
 have l8:L 8=false:=by
  cases h:L 8 with
  | false=>rfl
  | true=>have:=(hC.at8 h).2.1;rw [h0] at this;cases this
 have l9:L 9=false:=by
  cases h:L 9 with
  | false=>rfl
  | true=>have:=hC.at9 h;rw [l8] at this;cases this
 have hold:=hC.at4 lp h0
 obtain⟨i0,hi,hz0,hz1,hz2⟩:=su.infoB
 have hnews:∀ j u,(bs.flatMap cB)[j]?=some u->W.cell? ((⟨b0,0,none⟩:Addr).add j)=some u:=fun j u hu=>by
  obtain⟨i,e,r,h1,h2,h3⟩:=flat_get cB_len bs j u hu
  have d:=(hR.below hC.bel).2 i e h1
  rw [show (⟨b0,0,none⟩:Addr).add j=⟨b0,j,none⟩ by unfold Addr.add;split <;> simp_all,h3]
  match r,h2 with
   | 0,h2=>simp [cB] at h2;subst h2;exact d.1
   | 1,h2=>simp [cB] at h2;subst h2;exact d.2.1
   | 2,h2=>simp [cB] at h2;subst h2;exact d.2.2
   | r+3,h2=>simp [cB] at h2
 have h1c:∀ u∈bs.flatMap cB,u.oneCell'=true:=fun u hu=>by
  obtain⟨e,_,he⟩:=List.mem_flatMap.1 hu
  simp [cB] at he
  rcases he with rfl | rfl | rfl <;> rfl
 obtain⟨v',w',hr,ho,hg,hnil⟩:=run_append_own (P:=Tryz.prog) W (w.heap.size+2) 33 o.type 127 i0 _ 3 48 Tryz.underlying33 hi hz0 hz1 hz2 rfl (by omega) _ 0 [] hold ⟨b0,0,none⟩ bs.length bc (bs.flatMap cB) (flat_len cB_len bs) hnews h1c (by unfold maxLen;omega) (by omega) hC.size
 rw [Nat.zero_add,List.nil_append] at ho
 refine⟨{ s with vb:=v' },v',dk.agree_sets 7 10 _ hdst rfl rfl,(fun d hd=>by rw [hdst] at hd;cases hd;exact dk.sets_on _ (by omega) _ rfl),?_⟩
 have e1:(dk.sets act (ws w.heap.size es.length bs.length a0 b0 ec bc s)).eval (.tmp 7)=.slice (some ⟨s.b0,0,none⟩) 0 0:=dk.eval_on _ _ (by omega) rfl
 have e2:(dk.sets act (ws w.heap.size es.length bs.length a0 b0 ec bc s)).eval (.tmp 9)=.slice (some ⟨b0,0,none⟩) bs.length bc:=dk.eval_on _ _ (by omega) rfl
 have hrun:(execOp (dk.sets act (ws w.heap.size es.length bs.length a0 b0 ec bc s)).eval o).run Tryz.prog W=.ok (.value v') w':=by
  unfold execOp
  simp only [hop,resolve,invoke,builtin,Sem.run_bind,Sem.run_pure,Result.andThen_ok,List.map_toArray,List.map_cons,List.map_nil,e1,e2,hr]
 rw [hrun]
 refine⟨rfl,?_⟩
 show D w es bs a0 b0 ec bc _ (L 0) (L 3) (L 4) true (L 8) (L 9) _
 have hb:∀ b,(Value.slice (some ⟨s.b0,0,none⟩) 0 0).ownBlock=some b->w.heap.size+2 <= b:=fun b hb=>(hold.lt b hb).1
 refine⟨?_,?_,?_,fun e f=>(hC.at0 e f).kept hg (apartOO (hC.at0 e f) hold (by decide)),fun e=>⟨(hC.at3 e).1,(hC.at3 e).2.kept hg (apartOO (hC.at3 e).2 hold (by decide))⟩,fun _ e=>(by cases e),fun _=>⟨lp,ho⟩,fun e=>(by rw [l8] at e;cases e),fun e=>(by rw [l9] at e;cases e),hC.nn.1,fun _ e=>(by have:=hnil.1 e;cases this.1)⟩
 ·exact hC.bel.grown hg hC.bel.size fun b hb'=>by have:=hb b hb';omega
 ·rw [hg.block _ (Array.getElem?_eq_some_iff.1 hC.box).1 (fun e=>by have:=hb _ e.symm;omega)];exact hC.box
 ·have hrs:=hC.res
  rw [l9] at hrs ⊢
  rw [hg.block _ (Array.getElem?_eq_some_iff.1 hrs).1 (fun e=>by have:=hb _ e.symm;omega)]
  exact hrs
theorem st8 {o:Oper}(hsz:11<act.tmps.size)(hop:o.op=.build 35 #[(0,.tmp 6),(1,.tmp 10)])(hdst:o.dst=some 11)(hd3:∃ e∈o.after,Region.binds .any e=true/\e.on=3)(hd7:∃ e∈o.after,Region.binds .any e=true/\e.on=7):gh.Step Tryz.prog (fun s=>dk.sets act (ws w.heap.size es.length bs.length a0 b0 ec bc s)) (C w es bs a0 b0 ec bc) Q 8 o:=by
 refine gh.step_val (by rw [hop];simp) fun s L W hdp h0 hC=>⟨{ s with xe:=s.ve,xb:=s.vb },.agg #[s.ve,s.vb],dk.agree_sets 8 11 _ hdst rfl rfl,(fun d hd=>by rw [hdst] at hd;cases hd;exact dk.sets_on _ (by omega) _ rfl),?_⟩
 obtain⟨x3,m3,y3,z3⟩:=hd3
 have l3:=hdp x3 m3 y3
 rw [z3] at l3
 obtain⟨x7,m7,y7,z7⟩:=hd7
 have l7:=hdp x7 m7 y7
 rw [z7] at l7
 have hC:D w es bs a0 b0 ec bc s (L 0) (L 3) (L 4) (L 7) (L 8) (L 9) W:=hC
 have e6:(dk.sets act (ws w.heap.size es.length bs.length a0 b0 ec bc s)).tmps[6]?=some s.ve:=dk.sets_on _ (by omega) _ rfl
 have e10:(dk.sets act (ws w.heap.size es.length bs.length a0 b0 ec bc s)).tmps[10]?=some s.vb:=dk.sets_on _ (by omega) _ rfl
 obtain⟨ua,uc,hu,_⟩:=own_row cE_len (hC.at3 l3).2
 obtain⟨va,vc,hv,_⟩:=own_row cB_len (hC.at7 l7).2
 have hrun:(execOp (dk.sets act (ws w.heap.size es.length bs.length a0 b0 ec bc s)).eval o).run Tryz.prog W=.ok (.value (.agg #[s.ve,s.vb])) W:=by
  rw [hu] at e6 ⊢
  rw [hv] at e10 ⊢
  simp [execOp,hop,e6,e10,go_sem]
 rw [hrun]
 refine⟨rfl,?_⟩
 have l9:L 9=false:=by
  cases h:L 9 with
  | false=>rfl
  | true=>have:=hC.at9 h;rw [h0] at this;cases this
 show D w es bs a0 b0 ec bc _ (L 0) (L 3) (L 4) (L 7) true (L 9) _
 have hrs:=hC.res
 rw [l9] at hrs ⊢
 exact⟨hC.bel,hC.box,hrs,hC.at0,hC.at3,hC.at4,hC.at7,fun _=>⟨l3,l7,rfl,rfl⟩,fun e=>(by cases e),hC.nn⟩
theorem st9 {o:Oper}(hsz:11<act.tmps.size)(h2s:act.tmps[2]?=some (.pointer (some ⟨w.heap.size+1,0,none⟩)))(hop:o.op=.store 35 (.tmp 2) (.tmp 11))(hdst:o.dst=none)(hd8:∃ e∈o.after,Region.binds .any e=true/\e.on=8):gh.Step Tryz.prog (fun s=>dk.sets act (ws w.heap.size es.length bs.length a0 b0 ec bc s)) (C w es bs a0 b0 ec bc) Q 9 o:=by
 refine gh.step_val (by rw [hop];simp) fun s L W hdp h0 hC=>⟨s,undef,gh.Agree.refl _ _,(fun d hd=>by rw [hdst] at hd;cases hd),?_⟩
 obtain⟨x8,m8,y8,z8⟩:=hd8
 have l8:=hdp x8 m8 y8
 rw [z8] at l8
 have hC:D w es bs a0 b0 ec bc s (L 0) (L 3) (L 4) (L 7) (L 8) (L 9) W:=hC
 obtain⟨l3,l7,hxe,hxb⟩:=hC.at8 l8
 obtain⟨ua,uc,hu,_⟩:=own_row cE_len (hC.at3 l3).2
 obtain⟨va,vc,hv,_⟩:=own_row cB_len (hC.at7 l7).2
 have e2:(dk.sets act (ws w.heap.size es.length bs.length a0 b0 ec bc s)).tmps[2]?=some (.pointer (some ⟨w.heap.size+1,0,none⟩)):=(dk.sets_off act 2 _ (by simp [ws])).trans h2s
 have e11:(dk.sets act (ws w.heap.size es.length bs.length a0 b0 ec bc s)).tmps[11]?=some (.agg #[s.xe,s.xb]):=dk.sets_on _ (by omega) _ rfl
 have hrs:=hC.res
 rw [h0] at hrs
 have c0:W.cell? ⟨w.heap.size+1,0,none⟩=some (.slice none 0 0):=bcell hrs rfl
 have c1:W.cell? ⟨w.heap.size+1,1,none⟩=some (.slice none 0 0):=bcell hrs rfl
 have f0:=bfree hrs 0
 have f1:=bfree hrs 1
 have hrun:(execOp (dk.sets act (ws w.heap.size es.length bs.length a0 b0 ec bc s)).eval o).run Tryz.prog W=.ok .skip ((W.setCell ⟨w.heap.size+1,0,none⟩ s.xe).setCell ⟨w.heap.size+1,1,none⟩ s.xb):=by
  rw [hxe,hu,hxb,hv] at e11
  rw [hxe,hu,hxb,hv]
  simp [execOp,hop,e2,e11,go_sem,c0,c1,f0,f1]
 rw [hrun]
 refine⟨rfl,?_⟩
 show D w es bs a0 b0 ec bc _ (L 0) (L 3) (L 4) (L 7) (L 8) true _
 have hg:W.grownBy ((W.setCell ⟨w.heap.size+1,0,none⟩ s.xe).setCell ⟨w.heap.size+1,1,none⟩ s.xb) (some (w.heap.size+1)):=db.gb_set (db.gb_set (db.gb_refl _ _) 0 _) 1 _
 have hsz:w.heap.size <= w.heap.size+1:=Nat.le_succ _
 refine⟨(hC.bel.setCell hsz _).setCell hsz _,boff (boff hC.box _ _ _ (by omega)) _ _ _ (by omega),bset (bset hrs 0 _) 1 _,fun _ e=>(by rw [l3] at e;cases e),fun e=>⟨(hC.at3 e).1,(hC.at3 e).2.kept hg (.inr (apart (hC.at3 e).2 hrs (by decide)))⟩,fun _ e=>(by rw [l7] at e;cases e),fun e=>⟨(hC.at7 e).1,(hC.at7 e).2.kept hg (.inr (apart (hC.at7 e).2 hrs (by decide)))⟩,hC.at8,fun _=>l8,hC.nn⟩
end
theorem spec_copy (es:List Ex)(bs:List Bi)(a0 b0 ec bc:Nat)(w:World)(hel:es.length <= 1048576)(hbl:bs.length <= 1048576)(hE:RE w a0 es)(hB:RB w b0 bs) :
  Calls Tryz.prog 114 #[.agg #[.slice (some ⟨a0,0,none⟩) es.length ec,.slice (some ⟨b0,0,none⟩) bs.length bc]] w fun r w'=>∃ g1 c1 h1 c2,r=.returned (.agg #[.slice (some ⟨g1,0,none⟩) es.length c1,.slice (some ⟨h1,0,none⟩) bs.length c2])/\w'.ownsRow (w.heap.size+2) 125 2 (.slice (some ⟨g1,0,none⟩) es.length c1) es.length (es.flatMap cE)/\w'.ownsRow (w.heap.size+2) 127 3 (.slice (some ⟨h1,0,none⟩) bs.length c2) bs.length (bs.flatMap cB)/\Below w.heap.size w w':=by
 have h0:D w es bs a0 b0 ec bc ⟨0,0,.slice none 0 0,.slice none 0 0,.slice none 0 0,.slice none 0 0⟩ false false false false false false ((w.alloc (.cells #[.slice (some ⟨a0,0,none⟩) es.length ec,.slice (some ⟨b0,0,none⟩) bs.length bc] 35)).alloc (.cells #[.slice none 0 0,.slice none 0 0] 35)).drew:=by
  refine⟨(((Below.refl _ _).alloc (Nat.le_refl _) _).alloc (by simp) _).drew,bold (bnew w _ _) _,?_,by simp,by simp,by simp,by simp,by simp,by simp,by simp⟩
  have:=bnew (w.alloc (.cells #[.slice (some ⟨a0,0,none⟩) es.length ec,.slice (some ⟨b0,0,none⟩) bs.length bc] 35)) #[.slice none 0 0,.slice none 0 0] 35
  rw [World.size_alloc] at this
  exact this
 have HE:Hid (RE w a0 es):=hE
 have HB:Hid (RB w b0 bs):=hB
 clear hE hB
 go_enter Tryz.func114,Tryz.ntmps114
 go_wp2
 refine dk.region_gsets (ws w.heap.size es.length bs.length a0 b0 ec bc) [3,4,5,6,7,8,9,10,11] (C w es bs a0 b0 ec bc) ⟨0,0,.slice none 0 0,.slice none 0 0,.slice none 0 0,.slice none 0 0⟩ (by kernel_rfl) (by kernel_rfl) (fun _=>rfl) (by kernel_rfl) h0 ?each ?fin
 case each =>
  refine⟨st0 (by simp) rfl rfl,?_⟩
  refine⟨quiet (by decide) (by simp) (.pointer (some ⟨w.heap.size,0,none⟩)) (by rintro s _ ⟨⟩;exact dk.sets_on _ (by simp) _ rfl) (fun s W h=>by simp [execOp,go_sem,Act.eval,dk.sets_get,ws,List.lookup]),?_⟩
  refine⟨quiet (by decide) (by simp) (.slice (some ⟨a0,0,none⟩) es.length ec) (by rintro s _ ⟨⟩;exact dk.sets_on _ (by simp) _ rfl) (fun s W h=>by have c:W.cell? ⟨w.heap.size,0,none⟩=some (.slice (some ⟨a0,0,none⟩) es.length ec):=bcell h rfl;simp [execOp,go_sem,Act.eval,dk.sets_get,ws,List.lookup,c]),?_⟩
  refine⟨st3 hel HE.out (by simp) rfl rfl ⟨⟨0,.data⟩,by simp,rfl,rfl⟩,?_⟩
  refine⟨st4 (by simp) rfl rfl,?_⟩
  refine⟨quiet (by decide) (by simp) (.pointer (some ⟨w.heap.size,1,none⟩)) (by rintro s _ ⟨⟩;exact dk.sets_on _ (by simp) _ rfl) (fun s W h=>by simp [execOp,go_sem,Act.eval,dk.sets_get,ws,List.lookup]),?_⟩
  refine⟨quiet (by decide) (by simp) (.slice (some ⟨b0,0,none⟩) bs.length bc) (by rintro s _ ⟨⟩;exact dk.sets_on _ (by simp) _ rfl) (fun s W h=>by have c:W.cell? ⟨w.heap.size,1,none⟩=some (.slice (some ⟨b0,0,none⟩) bs.length bc):=bcell h rfl;simp [execOp,go_sem,Act.eval,dk.sets_get,ws,List.lookup,c]),?_⟩
  exact⟨st7 hbl HB.out (by simp) rfl rfl ⟨⟨4,.data⟩,by simp,rfl,rfl⟩,st8 (by simp) rfl rfl ⟨⟨3,.data⟩,by simp,rfl,rfl⟩ ⟨⟨7,.data⟩,by simp,rfl,rfl⟩,st9 (by simp) rfl rfl rfl ⟨⟨8,.data⟩,by simp,rfl,rfl⟩,trivial⟩
 case fin =>
  intro g L W hL hC
  have hD:D w es bs a0 b0 ec bc g true true true true true true W:=by
   have h:D w es bs a0 b0 ec bc g (L 0) (L 3) (L 4) (L 7) (L 8) (L 9) W:=hC
   rw [hL 0 (by decide),hL 3 (by decide),hL 4 (by decide),hL 7 (by decide),hL 8 (by decide),hL 9 (by decide)] at h
   exact h
  obtain⟨_,_,hxe,hxb⟩:=hD.at8 rfl
  obtain⟨_,oe⟩:=hD.at3 rfl
  obtain⟨_,ob⟩:=hD.at7 rfl
  have hrs:=hD.res
  have hbel:=hD.bel
  rw [hxe,hxb] at hrs
  obtain⟨g1,ce,hve,_,_⟩:=form oe (hD.nn.1 rfl)
  obtain⟨h1,cb,hvb,_,_⟩:=form ob (hD.nn.2 rfl)
  simp only [dk.sets,ws,hxe,hxb]
  rw [hve] at oe hrs ⊢
  rw [hvb] at ob hrs ⊢
  clear hD hC hL h0 hxe hxb hve hvb
  have r0:W.cell? ⟨w.heap.size+1,0,none⟩=some (.slice (some ⟨g1,0,none⟩) es.length ce):=bcell hrs rfl
  have r1:W.cell? ⟨w.heap.size+1,1,none⟩=some (.slice (some ⟨h1,0,none⟩) bs.length cb):=bcell hrs rfl
  have OE:Hid (W.ownsRow (w.heap.size+2) 125 2 (.slice (some ⟨g1,0,none⟩) es.length ce) es.length (es.flatMap cE)):=oe
  have OB:Hid (W.ownsRow (w.heap.size+2) 127 3 (.slice (some ⟨h1,0,none⟩) bs.length cb) bs.length (bs.flatMap cB)):=ob
  clear oe ob hrs
  go_wp2
  exact bodyPost_ret (v:=.agg #[.slice (some ⟨g1,0,none⟩) es.length ce,.slice (some ⟨h1,0,none⟩) bs.length cb]) (by simp [results,Tryz.results114,go_sem,r0,r1]) rfl ⟨g1,ce,h1,cb,rfl,OE.out,OB.out,hbel⟩
end Go.Proofs.YteoojodkkjepeaaGreat.sc
namespace Go.Proofs.YteoojodkkjepeaaGreat.srd
open ChangeShapes WideShapes ChangeAt RowKit fl fo rr st ce
theorem own_empty (w:World)(B:Nat)(U:TypeId)(s:Nat)(hB:B <= w.heap.size):(w.alloc (.cells #[] U)).ownsRow B U s (.slice (some ⟨w.heap.size,0,none⟩) 0 0) 0 [] :=
 ⟨by simp,.inr ⟨w.heap.size,0,#[],rfl,hB,bnew w _ _,Nat.le_refl _,by unfold maxLen;omega,by simp,by simp⟩⟩
end Go.Proofs.YteoojodkkjepeaaGreat.srd
namespace Go.Proofs.YteoojodkkjepeaaGreat.scp
open ChangeShapes WideShapes ChangeAt RowKit fl fo rr st srd
theorem form {w:World}{B n:Nat}{U:TypeId}{s:Nat}{v:Value}{xs:List Value}(h:w.ownsRow B U s v n xs)(hv:v≠.slice none 0 0):∃ g cap,v=.slice (some ⟨g,0,none⟩) n cap/\B <= g/\g<w.heap.size:=by
 obtain⟨_,⟨rfl,h0⟩ | ⟨g,cap,cur,rfl,hB,hg,_⟩⟩:=h
 ·exact absurd rfl hv
 ·exact⟨g,cap,rfl,hB,(Array.getElem?_eq_some_iff.1 hg).1⟩
theorem add_at (g o j:Nat):(⟨g,o,none⟩:Addr).add j=⟨g,o+j,none⟩:=by unfold Addr.add;split <;> simp_all
theorem newsY {w:World}{g:Nat}{es:List flY.En}(h:RY w g es):∀ (j:Nat) (u:Value),(es.flatMap flY.c)[j]?=some u->w.cell? ((⟨g,0,none⟩:Addr).add j)=some u:=fun j u hu=>by
 obtain⟨i,e,r,h1,h2,rfl⟩:=flat_get flY.c_len es j u hu
 rw [add_at,Nat.zero_add]
 obtain⟨a0,a1,a2⟩:=h.2 i e h1
 match r,h2 with
 | 0,h2=>cases h2;exact a0
 | 1,h2=>cases h2;exact a1
 | 2,h2=>cases h2;exact a2
 | r+3,h2=>simp [flY.c] at h2
theorem newsK {w:World}{g:Nat}{ms:List Ex}(h:RE w g ms):∀ (j:Nat) (u:Value),(ms.flatMap flK.c)[j]?=some u->w.cell? ((⟨g,0,none⟩:Addr).add j)=some u:=fun j u hu=>by
 obtain⟨i,e,r,h1,h2,rfl⟩:=flat_get flK.c_len ms j u hu
 rw [add_at,Nat.zero_add]
 obtain⟨a0,a1⟩:=h.2 i e h1
 match r,h2 with
 | 0,h2=>cases h2;exact a0
 | 1,h2=>cases h2;exact a1
 | r+2,h2=>simp [flK.c] at h2
theorem oneY (es:List flY.En):∀ u∈es.flatMap flY.c,u.oneCell'=true:=fun u hu=>by
 obtain⟨e,_,he⟩:=List.mem_flatMap.1 hu
 simp [flY.c] at he
 rcases he with rfl | rfl | rfl <;> rfl
theorem oneK (ms:List Ex):∀ u∈ms.flatMap flK.c,u.oneCell'=true:=fun u hu=>by
 obtain⟨e,_,he⟩:=List.mem_flatMap.1 hu
 simp [flK.c] at he
 rcases he with rfl | rfl <;> rfl
theorem infoY:∃ i0,Tryz.prog.info? 121=some i0/\i0.zero=some (.agg #[.int .i64 0,.int .i64 0,.string ByteArray.empty])/\i0.size=3/\i0.bytes=32:=by
 have h:=flY.info
 cases hh:Tryz.prog.info? 121 with
 | none=>rw [hh] at h;cases h
 | some i=>rw [hh] at h;simp at h;exact⟨i,rfl,h.1,h.2.1,h.2.2⟩
theorem infoK:∃ i0,Tryz.prog.info? 123=some i0/\i0.zero=some (.agg #[.string ByteArray.empty,.int .i64 0])/\i0.size=2/\i0.bytes=24:=by
 have h:=flK.info
 cases hh:Tryz.prog.info? 123 with
 | none=>rw [hh] at h;cases h
 | some i=>rw [hh] at h;simp at h;exact⟨i,rfl,h.1,h.2.1,h.2.2⟩
theorem grown_at {w w':World}{r:Option Nat}{b:Nat}{o:Obj}(hg:w.grownBy w' r)(h:w.heap[b]?=some o)(hr:r≠some b):w'.heap[b]?=some o:=(hg.block b (Array.getElem?_eq_some_iff.1 h).1 (fun e=>hr e.symm)).trans h
theorem own_set {w:World}{B n:Nat}{U:TypeId}{s:Nat}{v:Value}{xs:List Value}(h:w.ownsRow B U s v n xs)(b o:Nat)(u:Value)(hb:b<B):(w.setCell ⟨b,o,none⟩ u).ownsRow B U s v n xs:=by
 obtain⟨h0,h1 | ⟨g,cap,cur,h1,h2,h3,h4⟩⟩:=h
 ·exact⟨h0,.inl h1⟩
 ·exact⟨h0,.inr ⟨g,cap,cur,h1,h2,boff h3 b o u (by omega),h4⟩⟩
theorem own_low {w:World}{B B' n:Nat}{U:TypeId}{s:Nat}{v:Value}{xs:List Value}(h:w.ownsRow B U s v n xs)(hb:B' <= B):w.ownsRow B' U s v n xs:=by
 obtain⟨h0,h1 | ⟨g,cap,cur,h1,h2,h3⟩⟩:=h
 ·exact⟨h0,.inl h1⟩
 ·exact⟨h0,.inr ⟨g,cap,cur,h1,by omega,h3⟩⟩
theorem apart {w:World}{B n m g h c1 c2:Nat}{xs ys:List Value}(h1:w.ownsRow B 121 3 (.slice (some ⟨g,0,none⟩) n c1) n xs)(h2:w.ownsRow B 123 2 (.slice (some ⟨h,0,none⟩) m c2) m ys):g≠h:=by
 obtain⟨_,⟨h1,_⟩ | ⟨g1,cap,cur,h1,_,h3,_⟩⟩:=h1
 ·cases h1
 obtain⟨_,⟨h2,_⟩ | ⟨g2,cap2,cur2,h2,_,h4,_⟩⟩:=h2
 ·cases h2
 cases h1
 cases h2
 rintro rfl
 rw [h3] at h4
 simp at h4
def sets (w:World)(a b:Nat)(u x0 x1 x2 x3 x4:Value):World:=(((((w.setCell ⟨a,4,none⟩ u).setCell ⟨b,0,none⟩ x0).setCell ⟨b,1,none⟩ x1).setCell ⟨b,2,none⟩ x2).setCell ⟨b,3,none⟩ x3).setCell ⟨b,4,none⟩ x4
theorem own_sets {w:World}{B n a b:Nat}{U:TypeId}{s:Nat}{v u x0 x1 x2 x3 x4:Value}{xs:List Value}(h:w.ownsRow B U s v n xs)(hb:a<B/\b<B):(sets w a b u x0 x1 x2 x3 x4).ownsRow B U s v n xs :=
 own_set (own_set (own_set (own_set (own_set (own_set h _ _ _ hb.1) _ _ _ hb.2) _ _ _ hb.2) _ _ _ hb.2) _ _ _ hb.2) _ _ _ hb.2
theorem sets_below {w0 w:World}{a b:Nat}{u x0 x1 x2 x3 x4:Value}(h:Below w0.heap.size w0 w)(ha:w0.heap.size <= a/\w0.heap.size <= b):Below w0.heap.size w0 (sets w a b u x0 x1 x2 x3 x4) :=
 (((((h.setCell ha.1 _).setCell ha.2 _).setCell ha.2 _).setCell ha.2 _).setCell ha.2 _).setCell ha.2 _
theorem spec_copy (sn:ByteArray)(lo nx:Int)(es:List flY.En)(ms:List Ex)(g h cg ch:Nat)(w:World)(F:Fit sn es ms)(hY:RY w g es)(hE:RE w h ms) :
  Calls Tryz.prog 116 #[.agg #[.string sn,.int .i64 lo,.int .i64 nx,.slice (some ⟨g,0,none⟩) es.length cg,.slice (some ⟨h,0,none⟩) ms.length ch]] w fun e w'=>∃ g1 c1 h1 c2,e=.returned (.agg #[.string sn,.int .i64 lo,.int .i64 nx,.slice (some ⟨g1,0,none⟩) es.length c1,.slice (some ⟨h1,0,none⟩) ms.length c2])/\w'.ownsRow w.heap.size 121 3 (.slice (some ⟨g1,0,none⟩) es.length c1) es.length (es.flatMap flY.c)/\w'.ownsRow w.heap.size 123 2 (.slice (some ⟨h1,0,none⟩) ms.length c2) ms.length (ms.flatMap flK.c)/\g1≠h1/\Below w.heap.size w w':=by
 obtain⟨i0,hi,hz0,hz1,hz2⟩:=infoY
 obtain⟨i1,ki,kz0,kz1,kz2⟩:=infoK
 have hel:=F.el
 have hml:=F.ml
 have hb:Below w.heap.size w (((w.alloc (.cells #[.string sn,.int .i64 lo,.int .i64 nx,.slice (some ⟨g,0,none⟩) es.length cg,.slice (some ⟨h,0,none⟩) ms.length ch] 74)).alloc (.cells #[.string ⟨#[]⟩,.int .i64 0,.int .i64 0,.slice none 0 0,.slice none 0 0] 74)).alloc (.cells #[] 121)):=(((Below.refl _ _).alloc (Nat.le_refl _) _).alloc (by simp) _).alloc (by simp;omega) _
 have hA:=bold (bold (bnew w #[.string sn,.int .i64 lo,.int .i64 nx,.slice (some ⟨g,0,none⟩) es.length cg,.slice (some ⟨h,0,none⟩) ms.length ch] 74) (.cells #[.string ⟨#[]⟩,.int .i64 0,.int .i64 0,.slice none 0 0,.slice none 0 0] 74)) (.cells #[] 121)
 have hR:=bold (bnew (w.alloc (.cells #[.string sn,.int .i64 lo,.int .i64 nx,.slice (some ⟨g,0,none⟩) es.length cg,.slice (some ⟨h,0,none⟩) ms.length ch] 74)) #[.string ⟨#[]⟩,.int .i64 0,.int .i64 0,.slice none 0 0,.slice none 0 0] 74) (.cells #[] 121)
 rw [World.size_alloc] at hR
 have ho:=own_empty ((w.alloc (.cells #[.string sn,.int .i64 lo,.int .i64 nx,.slice (some ⟨g,0,none⟩) es.length cg,.slice (some ⟨h,0,none⟩) ms.length ch] 74)).alloc (.cells #[.string ⟨#[]⟩,.int .i64 0,.int .i64 0,.slice none 0 0,.slice none 0 0] 74)) (w.heap.size+2) 121 3 (by simp)
 have hS:(((w.alloc (.cells #[.string sn,.int .i64 lo,.int .i64 nx,.slice (some ⟨g,0,none⟩) es.length cg,.slice (some ⟨h,0,none⟩) ms.length ch] 74)).alloc (.cells #[.string ⟨#[]⟩,.int .i64 0,.int .i64 0,.slice none 0 0,.slice none 0 0] 74)).alloc (.cells #[] 121)).heap.size=w.heap.size+3:=by simp
 have hS2:((w.alloc (.cells #[.string sn,.int .i64 lo,.int .i64 nx,.slice (some ⟨g,0,none⟩) es.length cg,.slice (some ⟨h,0,none⟩) ms.length ch] 74)).alloc (.cells #[.string ⟨#[]⟩,.int .i64 0,.int .i64 0,.slice none 0 0,.slice none 0 0] 74)).heap.size=w.heap.size+2:=by simp
 rw [hS2] at ho
 obtain⟨W,hW⟩:∃ W,((w.alloc (.cells #[.string sn,.int .i64 lo,.int .i64 nx,.slice (some ⟨g,0,none⟩) es.length cg,.slice (some ⟨h,0,none⟩) ms.length ch] 74)).alloc (.cells #[.string ⟨#[]⟩,.int .i64 0,.int .i64 0,.slice none 0 0,.slice none 0 0] 74)).alloc (.cells #[] 121)=W:=⟨_,rfl⟩
 rw [hW] at hb hA hR ho hS
 have HYW:Hid (RY W g es):=hY.below hb
 have HEw:Hid (RE w h ms):=hE
 have x3:W.cell? ⟨w.heap.size,3,none⟩=some (.slice (some ⟨g,0,none⟩) es.length cg):=bcell hA rfl
 have x3f:=bfree hA 3
 have HA:Hid (W.heap[w.heap.size]?=some (.cells #[.string sn,.int .i64 lo,.int .i64 nx,.slice (some ⟨g,0,none⟩) es.length cg,.slice (some ⟨h,0,none⟩) ms.length ch] 74 (0,0))):=hA
 have HR:Hid (W.heap[w.heap.size+1]?=some (.cells #[.string ⟨#[]⟩,.int .i64 0,.int .i64 0,.slice none 0 0,.slice none 0 0] 74 (0,0))):=hR
 have HO:Hid (W.ownsRow (w.heap.size+2) 121 3 (.slice (some ⟨w.heap.size+2,0,none⟩) 0 0) 0 []):=ho
 clear hY hE hA hR ho F
 go_enter Tryz.func116,Tryz.ntmps116
 go_wp2_with (at_builtin;refine wpList_append_own _ rfl _ _ 71 rfl (w.heap.size+2) 121 i0 (.agg #[.int .i64 0,.int .i64 0,.string ByteArray.empty]) 3 32 Tryz.underlying71 hi hz0 hz1 hz2 rfl (by decide) _ 0 [] rfl (by exact HO.out) ⟨g,0,none⟩ es.length cg (es.flatMap flY.c) rfl (flat_len flY.c_len es) (by exact newsY HYW.out) (oneY es) (by unfold maxLen;omega) (by omega) (by omega) ?_)
 intro v1 w1 hown1 hgrow1 hnil1
 obtain⟨g1,c1,rfl,hg1,hg1l⟩:=form hown1 (fun e=>by first | exact hnil1 e | (have:=hnil1.1 e;cases this.1))
 have hgr1:W.grownBy w1 (some (w.heap.size+2)):=hgrow1
 have a1:=grown_at hgr1 HA.out (by simp)
 have r1:=grown_at hgr1 HR.out (by simp)
 have hs1:=hgr1.size
 have y3:w1.cell? ⟨w.heap.size,3,none⟩=some (.slice (some ⟨g,0,none⟩) es.length cg):=bcell a1 rfl
 have y3f:=bfree a1 3
 have hb1:Below w.heap.size w w1:=hb.grown hgr1 (by omega) (fun b hb=>by cases hb;omega)
 -- the row is stored,and the second empty row laid
 have a2:=bold (bset a1 3 (.slice (some ⟨g1,0,none⟩) es.length c1)) (.cells #[] 123)
 have r2:=bold (boff r1 w.heap.size 3 (.slice (some ⟨g1,0,none⟩) es.length c1) (by omega)) (.cells #[] 123)
 have hb2:Below w.heap.size w ((w1.setCell ⟨w.heap.size,3,none⟩ (.slice (some ⟨g1,0,none⟩) es.length c1)).alloc (.cells #[] 123)):=(hb1.setCell (Nat.le_refl _) _).alloc (by simp;omega) _
 have hsz2:(w1.setCell ⟨w.heap.size,3,none⟩ (.slice (some ⟨g1,0,none⟩) es.length c1)).heap.size=w1.heap.size:=by simp
 have o2:=own_empty (w1.setCell ⟨w.heap.size,3,none⟩ (.slice (some ⟨g1,0,none⟩) es.length c1)) (w.heap.size+2) 123 2 (by simp;omega)
 rw [hsz2] at o2
 have e2:((w1.setCell ⟨w.heap.size,3,none⟩ (.slice (some ⟨g1,0,none⟩) es.length c1)).alloc (.cells #[] 123)).ownsRow (w.heap.size+2) 121 3 (.slice (some ⟨g1,0,none⟩) es.length c1) es.length (es.flatMap flY.c):=(own_set hown1 w.heap.size 3 (.slice (some ⟨g1,0,none⟩) es.length c1) (by omega)).alloc _
 have hS3:((w1.setCell ⟨w.heap.size,3,none⟩ (.slice (some ⟨g1,0,none⟩) es.length c1)).alloc (.cells #[] 123)).heap.size=w1.heap.size+1:=by simp
 obtain⟨W2,hW2⟩:∃ W2,(w1.setCell ⟨w.heap.size,3,none⟩ (.slice (some ⟨g1,0,none⟩) es.length c1)).alloc (.cells #[] 123)=W2:=⟨_,rfl⟩
 rw [hW2] at a2 r2 hb2 o2 e2 hS3
 have HEW:Hid (RE W2 h ms):=HEw.out.below hb2
 have x4:W2.cell? ⟨w.heap.size,4,none⟩=some (.slice (some ⟨h,0,none⟩) ms.length ch):=bcell a2 rfl
 have HA2:Hid (W2.heap[w.heap.size]?=some (.cells #[.string sn,.int .i64 lo,.int .i64 nx,.slice (some ⟨g1,0,none⟩) es.length c1,.slice (some ⟨h,0,none⟩) ms.length ch] 74 (0,0))):=a2
 have HR2:Hid (W2.heap[w.heap.size+1]?=some (.cells #[.string ⟨#[]⟩,.int .i64 0,.int .i64 0,.slice none 0 0,.slice none 0 0] 74 (0,0))):=r2
 have HO2:Hid (W2.ownsRow (w.heap.size+2) 123 2 (.slice (some ⟨w1.heap.size,0,none⟩) 0 0) 0 []):=o2
 have HE2:Hid (W2.ownsRow (w.heap.size+2) 121 3 (.slice (some ⟨g1,0,none⟩) es.length c1) es.length (es.flatMap flY.c)):=e2
 clear a1 r1 a2 r2 o2 e2 hown1 hgrow1 hnil1 hgr1 hW x3 x3f HYW HA HR HO HEw
 go_wp2_with (at_builtin;refine wpList_append_own _ rfl _ _ 72 rfl (w.heap.size+2) 123 i1 (.agg #[.string ByteArray.empty,.int .i64 0]) 2 24 Tryz.underlying72 ki kz0 kz1 kz2 rfl (by decide) _ 0 [] rfl (by exact HO2.out) ⟨h,0,none⟩ ms.length ch (ms.flatMap flK.c) rfl (flat_len flK.c_len ms) (by exact newsK HEW.out) (oneK ms) (by unfold maxLen;omega) (by omega) (by omega) ?_)
 intro v2 w2 hown2 hgrow2 hnil2
 obtain⟨h1,c2,rfl,hh1,hh1l⟩:=form hown2 (fun e=>by first | exact hnil2 e | (have:=hnil2.1 e;cases this.1))
 have hgr2:W2.grownBy w2 (some w1.heap.size):=hgrow2
 have a3:=grown_at hgr2 HA2.out (by simp;omega)
 have r3:=grown_at hgr2 HR2.out (by simp;omega)
 have hs2:=hgr2.size
 have e3:=HE2.out.kept hgr2 (.inr (by simp [Value.ownBlock];omega))
 have hne:g1≠h1:=apart e3 hown2
 obtain⟨y0,y1,y2,y3,y4⟩:=fl.q5 a3
 have y4f:=bfree a3 4
 obtain⟨z0,z1,z2,z3,z4⟩:=fl.q5 r3
 obtain⟨z0f,z1f,z2f,z3f,z4f⟩:=fl.r5 r3
 have hb3:Below w.heap.size w w2:=hb2.grown hgr2 (by omega) (fun b hb=>by cases hb;omega)
 have HE3:Hid (w2.ownsRow (w.heap.size+2) 121 3 (.slice (some ⟨g1,0,none⟩) es.length c1) es.length (es.flatMap flY.c)):=e3
 have HM3:Hid (w2.ownsRow (w.heap.size+2) 123 2 (.slice (some ⟨h1,0,none⟩) ms.length c2) ms.length (ms.flatMap flK.c)):=hown2
 clear a3 r3 e3 hown2 hgrow2 hnil2 hgr2 hW2 x4 HA2 HR2 HO2 HE2 HEW
 go_wp2
 refine bodyPost_ret (v:=.agg #[.string sn,.int .i64 lo,.int .i64 nx,.slice (some ⟨g1,0,none⟩) es.length c1,.slice (some ⟨h1,0,none⟩) ms.length c2]) (by simp [results,Tryz.results116,go_sem,z0,z1,z2,z3,z4]) rfl ⟨g1,c1,h1,c2,rfl,?_,?_,hne,?_⟩
 ·exact own_low (own_sets HE3.out (by omega)) (by omega)
 ·exact own_low (own_sets HM3.out (by omega)) (by omega)
 ·exact sets_below hb3 (by omega)
end Go.Proofs.YteoojodkkjepeaaGreat.scp
