/- SpecCopy, CopyEntries, StreamReadSpec. -/
import Derived.Test.YtaoefccgdfcchaaGreatKq25
import Derived.Test.YtaoefccgdfcchaaGreatKq20
import Derived.Test.YtaoefccgdfcchaaGreatKq10
import Derived.Test.YtaoefccgdfcchaaGreatKq01
import Derived.Test.YtaoefccgdfcchaaGreatKq24
set_option maxRecDepth 100000
set_option maxHeartbeats 8000000
set_option linter.unusedVariables false
namespace Go.Proofs.YtaoefccgdfcchaaGreat.sc
open ChangeShapes WideShapes ChangeAt RowKit rr ra rt fl su
theorem form {w:World} {B n:Nat} {U:TypeId} {s:Nat} {v:Value} {xs:List Value} (h:w.ownsRow B U s v n xs) (hv:v ≠ .slice none 0 0):∃ g cap,v=.slice (some ⟨g,0,none⟩) n cap/\B <= g/\g < w.heap.size:=by
 obtain ⟨_,⟨rfl,h0⟩ | ⟨g,cap,cur,rfl,hB,hg,_⟩⟩:=h
 ·exact absurd rfl hv
 ·exact ⟨g,cap,rfl,hB,(Array.getElem?_eq_some_iff.1 hg).1⟩
structure G where
 e0:Nat
 b0:Nat
 ve:Value
 vb:Value
 xe:Value
 xb:Value
def ws (s n m a0 b0 ec bc:Nat) (g:G):List (Nat × Value):=[(3,.slice (some ⟨g.e0,0,none⟩) 0 0),(4,.pointer (some ⟨s,0,none⟩)),(5,.slice (some ⟨a0,0,none⟩) n ec),(6,g.ve),(7,.slice (some ⟨g.b0,0,none⟩) 0 0),(8,.pointer (some ⟨s,1,none⟩)),(9,.slice (some ⟨b0,0,none⟩) m bc),(10,g.vb),(11,.agg #[g.xe,g.xb])]
structure D (w:World) (es:List Ex) (bs:List Bi) (a0 b0 ec bc:Nat) (g:G) (c0 c3 c4 c7 c8 c9:Bool) (W:World):Prop where
 bel:Below w.heap.size w W
 box:W.heap[w.heap.size]?=some (.cells #[.slice (some ⟨a0,0,none⟩) es.length ec,.slice (some ⟨b0,0,none⟩) bs.length bc] 34 (0,0))
 res:W.heap[w.heap.size+1]?=some (.cells (if c9 then #[g.xe,g.xb] else #[.slice none 0 0,.slice none 0 0]) 34 (0,0))
 at0:c0=true->c3=false->W.ownsRow (w.heap.size+2) 137 2 (.slice (some ⟨g.e0,0,none⟩) 0 0) 0 []
 at3:c3=true->c0=true/\W.ownsRow (w.heap.size+2) 137 2 g.ve es.length (es.flatMap cE)
 at4:c4=true->c7=false->W.ownsRow (w.heap.size+2) 138 3 (.slice (some ⟨g.b0,0,none⟩) 0 0) 0 []
 at7:c7=true->c4=true/\W.ownsRow (w.heap.size+2) 138 3 g.vb bs.length (bs.flatMap cB)
 at8:c8=true->c3=true/\c7=true/\g.xe=g.ve/\g.xb=g.vb
 at9:c9=true->c8=true
 nn:(c3=true->g.ve ≠ .slice none 0 0)/\(c7=true->g.vb ≠ .slice none 0 0)
def C (w:World) (es:List Ex) (bs:List Bi) (a0 b0 ec bc:Nat) (g:G) (L:Nat->Bool) (W:World):Prop:=D w es bs a0 b0 ec bc g (L 0) (L 3) (L 4) (L 7) (L 8) (L 9) W
section
variable {w:World} {es:List Ex} {bs:List Bi} {a0 b0 ec bc:Nat} {g:G} {c0 c3 c4 c7 c8 c9:Bool} {W W':World}
theorem D.size (h:D w es bs a0 b0 ec bc g c0 c3 c4 c7 c8 c9 W):w.heap.size+2 <= W.heap.size:=(Array.getElem?_eq_some_iff.1 h.res).1
theorem D.grow {r:Option Nat} (h:D w es bs a0 b0 ec bc g c0 c3 c4 c7 c8 c9 W) (hg:W.grownBy W' r) (hr:∀ b,r=some b->w.heap.size+2 <= b)
  (h0:c0=true->c3=false->(Value.slice (some ⟨g.e0,0,none⟩) 0 0).ownBlock=none ∨ (Value.slice (some ⟨g.e0,0,none⟩) 0 0).ownBlock ≠ r) (h3:c3=true->g.ve.ownBlock=none ∨ g.ve.ownBlock ≠ r)
  (h4:c4=true->c7=false->(Value.slice (some ⟨g.b0,0,none⟩) 0 0).ownBlock=none ∨ (Value.slice (some ⟨g.b0,0,none⟩) 0 0).ownBlock ≠ r) (h7:c7=true->g.vb.ownBlock=none ∨ g.vb.ownBlock ≠ r):D w es bs a0 b0 ec bc g c0 c3 c4 c7 c8 c9 W':=by
 refine ⟨h.bel.grown hg h.bel.size fun b hb=>?_,?_,?_,fun a b=>(h.at0 a b).kept hg (h0 a b),fun a=>⟨(h.at3 a).1,(h.at3 a).2.kept hg (h3 a)⟩,fun a b=>(h.at4 a b).kept hg (h4 a b),fun a=>⟨(h.at7 a).1,(h.at7 a).2.kept hg (h7 a)⟩,h.at8,h.at9,h.nn⟩
 ·have:=hr b hb; omega
 ·rw [hg.block _ (Array.getElem?_eq_some_iff.1 h.box).1 (fun e=>by have:=hr _ e.symm; omega)]; exact h.box
 ·rw [hg.block _ (Array.getElem?_eq_some_iff.1 h.res).1 (fun e=>by have:=hr _ e.symm; omega)]; exact h.res
theorem D.alloc (h:D w es bs a0 b0 ec bc g c0 c3 c4 c7 c8 c9 W) (o:Obj):D w es bs a0 b0 ec bc g c0 c3 c4 c7 c8 c9 (W.alloc o) :=
 h.grow (r:=none) (World.grownBy_alloc W o none) (fun b e=>by cases e) (fun _ _=>by simp [Value.ownBlock]) (fun _=>by cases g.ve.ownBlock <;> simp) (fun _ _=>by simp [Value.ownBlock]) (fun _=>by cases g.vb.ownBlock <;> simp)
end
section
variable {w:World} {es:List Ex} {bs:List Bi} {a0 b0 ec bc:Nat} {act:Act} {Q:Exit->Act->World->Prop}
theorem quiet {i:Nat} {o:Oper} (hi:i=1 ∨ i=2 ∨ i=5 ∨ i=6) (hsel:∀ cs b,o.op ≠ .select cs b) (u:Value) (hd:∀ s d,o.dst=some d->(dk.sets act (ws w.heap.size es.length bs.length a0 b0 ec bc s)).tmps[d]?=some u)
  (hrun:∀ s W,W.heap[w.heap.size]?=some (.cells #[.slice (some ⟨a0,0,none⟩) es.length ec,.slice (some ⟨b0,0,none⟩) bs.length bc] 34 (0,0))->(execOp (dk.sets act (ws w.heap.size es.length bs.length a0 b0 ec bc s)).eval o).run Tryz.prog W=.ok (.value u) W):gh.Step Tryz.prog (fun s=>dk.sets act (ws w.heap.size es.length bs.length a0 b0 ec bc s)) (C w es bs a0 b0 ec bc) Q i o:=by
 refine gh.step_val hsel fun s L W hdp h0 hC=>⟨s,u,gh.Agree.refl _ _,hd s,?_⟩
 rw [hrun s W hC.box]
 refine ⟨rfl,?_⟩
 unfold C dn.more
 rw [if_neg (by omega),if_neg (by omega),if_neg (by omega),if_neg (by omega),if_neg (by omega),if_neg (by omega)]
 exact hC
theorem st0 {o:Oper} (hsz:11 < act.tmps.size) (hop:o.op=.buildSlice 31 0 #[]) (hdst:o.dst=some 3):gh.Step Tryz.prog (fun s=>dk.sets act (ws w.heap.size es.length bs.length a0 b0 ec bc s)) (C w es bs a0 b0 ec bc) Q 0 o:=by
 refine gh.step_val (by rw [hop]; simp) fun s L W hdp h0 hC=>⟨{ s with e0:=W.heap.size },.slice (some ⟨W.heap.size,0,none⟩) 0 0,dk.agree_sets 0 3 _ hdst rfl rfl,(fun d hd=>by rw [hdst] at hd; cases hd; exact dk.sets_on _ (by omega) _ rfl),?_⟩
 have hrun:(execOp (dk.sets act (ws w.heap.size es.length bs.length a0 b0 ec bc s)).eval o).run Tryz.prog W=.ok (.value (.slice (some ⟨W.heap.size,0,none⟩) 0 0)) (W.alloc (.cells #[] 137)):=by
  simp [execOp,hop,go_sem]
 rw [hrun]
 refine ⟨rfl,?_⟩
 have hC:D w es bs a0 b0 ec bc s (L 0) (L 3) (L 4) (L 7) (L 8) (L 9) W:=hC
 show D w es bs a0 b0 ec bc _ true (L 3) (L 4) (L 7) (L 8) (L 9) _
 have l3:L 3=false:=by
  cases h:L 3 with
  | false=>rfl
  | true=>have:=(hC.at3 h).1; rw [h0] at this; cases this
 have h1:=hC.alloc (.cells #[] 137)
 exact ⟨h1.bel,h1.box,h1.res,fun _ _=>World.ownsRow_made W #[] 0 hC.size (by unfold maxLen; omega) (by simp),fun e=>(by rw [l3] at e; cases e),h1.at4,h1.at7,h1.at8,h1.at9,h1.nn⟩
theorem st4 {o:Oper} (hsz:11 < act.tmps.size) (hop:o.op=.buildSlice 32 0 #[]) (hdst:o.dst=some 7):gh.Step Tryz.prog (fun s=>dk.sets act (ws w.heap.size es.length bs.length a0 b0 ec bc s)) (C w es bs a0 b0 ec bc) Q 4 o:=by
 refine gh.step_val (by rw [hop]; simp) fun s L W hdp h0 hC=>⟨{ s with b0:=W.heap.size },.slice (some ⟨W.heap.size,0,none⟩) 0 0,dk.agree_sets 4 7 _ hdst rfl rfl,(fun d hd=>by rw [hdst] at hd; cases hd; exact dk.sets_on _ (by omega) _ rfl),?_⟩
 have hrun:(execOp (dk.sets act (ws w.heap.size es.length bs.length a0 b0 ec bc s)).eval o).run Tryz.prog W=.ok (.value (.slice (some ⟨W.heap.size,0,none⟩) 0 0)) (W.alloc (.cells #[] 138)):=by
  simp [execOp,hop,go_sem]
 rw [hrun]
 refine ⟨rfl,?_⟩
 have hC:D w es bs a0 b0 ec bc s (L 0) (L 3) (L 4) (L 7) (L 8) (L 9) W:=hC
 show D w es bs a0 b0 ec bc _ (L 0) (L 3) true (L 7) (L 8) (L 9) _
 have l7:L 7=false:=by
  cases h:L 7 with
  | false=>rfl
  | true=>have:=(hC.at7 h).1; rw [h0] at this; cases this
 have h1:=hC.alloc (.cells #[] 138)
 exact ⟨h1.bel,h1.box,h1.res,h1.at0,h1.at3,fun _ _=>World.ownsRow_made W #[] 0 hC.size (by unfold maxLen; omega) (by simp),fun e=>(by rw [l7] at e; cases e),h1.at8,h1.at9,h1.nn⟩
theorem st3 {o:Oper} (hl:es.length <= 1048576) (hR:RE w a0 es) (hsz:11 < act.tmps.size) (hop:o.op=.call { callee:=.builtin .append,args:=#[.tmp 3,.tmp 5],argTypes:=#[31,31] }) (hdst:o.dst=some 6) (hdp0:∃ e ∈ o.after,Region.binds .any e=true/\e.on=0):gh.Step Tryz.prog (fun s=>dk.sets act (ws w.heap.size es.length bs.length a0 b0 ec bc s)) (C w es bs a0 b0 ec bc) Q 3 o:=by
 refine gh.step_val (by rw [hop]; simp) fun s L W hdp h0 hC=>?_
 obtain ⟨xp,mp,yp,zp⟩:=hdp0
 have lp:=hdp xp mp yp
 rw [zp] at lp
 have hC:D w es bs a0 b0 ec bc s (L 0) (L 3) (L 4) (L 7) (L 8) (L 9) W:=hC
 have l8:L 8=false:=by
  cases h:L 8 with
  | false=>rfl
  | true=>have:=(hC.at8 h).1; rw [h0] at this; cases this
 have l9:L 9=false:=by
  cases h:L 9 with
  | false=>rfl
  | true=>have:=hC.at9 h; rw [l8] at this; cases this
 have hold:=hC.at0 lp h0
 obtain ⟨i0,hi,hz0,hz1,hz2⟩:=su.infoE
 have hnews:∀ j u,(es.flatMap cE)[j]?=some u->W.cell? ((⟨a0,0,none⟩:Addr).add j)=some u:=fun j u hu=>by
  obtain ⟨i,e,r,h1,h2,h3⟩:=flat_get cE_len es j u hu
  have d:=(hR.below hC.bel).2 i e h1
  rw [show (⟨a0,0,none⟩:Addr).add j=⟨a0,j,none⟩ by unfold Addr.add; split <;> simp_all,h3]
  match r,h2 with
   | 0,h2=>simp [cE] at h2; subst h2; exact d.1
   | 1,h2=>simp [cE] at h2; subst h2; exact d.2
   | r+2,h2=>simp [cE] at h2
 have h1c:∀ u ∈ es.flatMap cE,u.oneCell'=true:=fun u hu=>by
  obtain ⟨e,_,he⟩:=List.mem_flatMap.1 hu
  simp [cE] at he
  rcases he with rfl | rfl <;> rfl
 obtain ⟨v',w',hr,ho,hg,hnil⟩:=run_append_own (P:=Tryz.prog) W (w.heap.size+2) 31 o.type 137 i0 _ 2 24 Tryz.underlying31 hi hz0 hz1 hz2 rfl (by omega) _ 0 [] hold ⟨a0,0,none⟩ es.length ec (es.flatMap cE) (flat_len cE_len es) hnews h1c (by unfold maxLen; omega) (by omega) hC.size
 rw [Nat.zero_add,List.nil_append] at ho
 refine ⟨{ s with ve:=v' },v',dk.agree_sets 3 6 _ hdst rfl rfl,(fun d hd=>by rw [hdst] at hd; cases hd; exact dk.sets_on _ (by omega) _ rfl),?_⟩
 have e1:(dk.sets act (ws w.heap.size es.length bs.length a0 b0 ec bc s)).eval (.tmp 3)=.slice (some ⟨s.e0,0,none⟩) 0 0:=dk.eval_on _ _ (by omega) rfl
 have e2:(dk.sets act (ws w.heap.size es.length bs.length a0 b0 ec bc s)).eval (.tmp 5)=.slice (some ⟨a0,0,none⟩) es.length ec:=dk.eval_on _ _ (by omega) rfl
 have hrun:(execOp (dk.sets act (ws w.heap.size es.length bs.length a0 b0 ec bc s)).eval o).run Tryz.prog W=.ok (.value v') w':=by
  unfold execOp
  simp only [hop,resolve,invoke,builtin,Sem.run_bind,Sem.run_pure,Result.andThen_ok,List.map_toArray,List.map_cons,List.map_nil,e1,e2,hr]
 rw [hrun]
 refine ⟨rfl,?_⟩
 show D w es bs a0 b0 ec bc _ (L 0) true (L 4) (L 7) (L 8) (L 9) _
 have hb:∀ b,(Value.slice (some ⟨s.e0,0,none⟩) 0 0).ownBlock=some b->w.heap.size+2 <= b:=fun b hb=>(hold.lt b hb).1
 refine ⟨?_,?_,?_,fun _ e=>(by cases e),fun _=>⟨lp,ho⟩,fun e f=>(hC.at4 e f).kept hg (apartOO (hC.at4 e f) hold (by decide)),fun e=>⟨(hC.at7 e).1,(hC.at7 e).2.kept hg (apartOO (hC.at7 e).2 hold (by decide))⟩,fun e=>(by rw [l8] at e; cases e),fun e=>(by rw [l9] at e; cases e),fun _ e=>(by have:=hnil.1 e; cases this.1),hC.nn.2⟩
 ·exact hC.bel.grown hg hC.bel.size fun b hb'=>by have:=hb b hb'; omega
 ·rw [hg.block _ (Array.getElem?_eq_some_iff.1 hC.box).1 (fun e=>by have:=hb _ e.symm; omega)]; exact hC.box
 ·have hrs:=hC.res
  rw [l9] at hrs ⊢
  rw [hg.block _ (Array.getElem?_eq_some_iff.1 hrs).1 (fun e=>by have:=hb _ e.symm; omega)]
  exact hrs
theorem st7 {o:Oper} (hl:bs.length <= 1048576) (hR:RB w b0 bs) (hsz:11 < act.tmps.size) (hop:o.op=.call { callee:=.builtin .append,args:=#[.tmp 7,.tmp 9],argTypes:=#[32,32] }) (hdst:o.dst=some 10) (hdp0:∃ e ∈ o.after,Region.binds .any e=true/\e.on=4):gh.Step Tryz.prog (fun s=>dk.sets act (ws w.heap.size es.length bs.length a0 b0 ec bc s)) (C w es bs a0 b0 ec bc) Q 7 o:=by
 refine gh.step_val (by rw [hop]; simp) fun s L W hdp h0 hC=>?_
 obtain ⟨xp,mp,yp,zp⟩:=hdp0
 have lp:=hdp xp mp yp
 rw [zp] at lp
 have hC:D w es bs a0 b0 ec bc s (L 0) (L 3) (L 4) (L 7) (L 8) (L 9) W:=hC
 have l8:L 8=false:=by
  cases h:L 8 with
  | false=>rfl
  | true=>have:=(hC.at8 h).2.1; rw [h0] at this; cases this
 have l9:L 9=false:=by
  cases h:L 9 with
  | false=>rfl
  | true=>have:=hC.at9 h; rw [l8] at this; cases this
 have hold:=hC.at4 lp h0
 obtain ⟨i0,hi,hz0,hz1,hz2⟩:=su.infoB
 have hnews:∀ j u,(bs.flatMap cB)[j]?=some u->W.cell? ((⟨b0,0,none⟩:Addr).add j)=some u:=fun j u hu=>by
  obtain ⟨i,e,r,h1,h2,h3⟩:=flat_get cB_len bs j u hu
  have d:=(hR.below hC.bel).2 i e h1
  rw [show (⟨b0,0,none⟩:Addr).add j=⟨b0,j,none⟩ by unfold Addr.add; split <;> simp_all,h3]
  match r,h2 with
   | 0,h2=>simp [cB] at h2; subst h2; exact d.1
   | 1,h2=>simp [cB] at h2; subst h2; exact d.2.1
   | 2,h2=>simp [cB] at h2; subst h2; exact d.2.2
   | r+3,h2=>simp [cB] at h2
 have h1c:∀ u ∈ bs.flatMap cB,u.oneCell'=true:=fun u hu=>by
  obtain ⟨e,_,he⟩:=List.mem_flatMap.1 hu
  simp [cB] at he
  rcases he with rfl | rfl | rfl <;> rfl
 obtain ⟨v',w',hr,ho,hg,hnil⟩:=run_append_own (P:=Tryz.prog) W (w.heap.size+2) 32 o.type 138 i0 _ 3 48 Tryz.underlying32 hi hz0 hz1 hz2 rfl (by omega) _ 0 [] hold ⟨b0,0,none⟩ bs.length bc (bs.flatMap cB) (flat_len cB_len bs) hnews h1c (by unfold maxLen; omega) (by omega) hC.size
 rw [Nat.zero_add,List.nil_append] at ho
 refine ⟨{ s with vb:=v' },v',dk.agree_sets 7 10 _ hdst rfl rfl,(fun d hd=>by rw [hdst] at hd; cases hd; exact dk.sets_on _ (by omega) _ rfl),?_⟩
 have e1:(dk.sets act (ws w.heap.size es.length bs.length a0 b0 ec bc s)).eval (.tmp 7)=.slice (some ⟨s.b0,0,none⟩) 0 0:=dk.eval_on _ _ (by omega) rfl
 have e2:(dk.sets act (ws w.heap.size es.length bs.length a0 b0 ec bc s)).eval (.tmp 9)=.slice (some ⟨b0,0,none⟩) bs.length bc:=dk.eval_on _ _ (by omega) rfl
 have hrun:(execOp (dk.sets act (ws w.heap.size es.length bs.length a0 b0 ec bc s)).eval o).run Tryz.prog W=.ok (.value v') w':=by
  unfold execOp
  simp only [hop,resolve,invoke,builtin,Sem.run_bind,Sem.run_pure,Result.andThen_ok,List.map_toArray,List.map_cons,List.map_nil,e1,e2,hr]
 rw [hrun]
 refine ⟨rfl,?_⟩
 show D w es bs a0 b0 ec bc _ (L 0) (L 3) (L 4) true (L 8) (L 9) _
 have hb:∀ b,(Value.slice (some ⟨s.b0,0,none⟩) 0 0).ownBlock=some b->w.heap.size+2 <= b:=fun b hb=>(hold.lt b hb).1
 refine ⟨?_,?_,?_,fun e f=>(hC.at0 e f).kept hg (apartOO (hC.at0 e f) hold (by decide)),fun e=>⟨(hC.at3 e).1,(hC.at3 e).2.kept hg (apartOO (hC.at3 e).2 hold (by decide))⟩,fun _ e=>(by cases e),fun _=>⟨lp,ho⟩,fun e=>(by rw [l8] at e; cases e),fun e=>(by rw [l9] at e; cases e),hC.nn.1,fun _ e=>(by have:=hnil.1 e; cases this.1)⟩
 ·exact hC.bel.grown hg hC.bel.size fun b hb'=>by have:=hb b hb'; omega
 ·rw [hg.block _ (Array.getElem?_eq_some_iff.1 hC.box).1 (fun e=>by have:=hb _ e.symm; omega)]; exact hC.box
 ·have hrs:=hC.res
  rw [l9] at hrs ⊢
  rw [hg.block _ (Array.getElem?_eq_some_iff.1 hrs).1 (fun e=>by have:=hb _ e.symm; omega)]
  exact hrs
theorem st8 {o:Oper} (hsz:11 < act.tmps.size) (hop:o.op=.build 34 #[(0,.tmp 6),(1,.tmp 10)]) (hdst:o.dst=some 11) (hd3:∃ e ∈ o.after,Region.binds .any e=true/\e.on=3) (hd7:∃ e ∈ o.after,Region.binds .any e=true/\e.on=7):gh.Step Tryz.prog (fun s=>dk.sets act (ws w.heap.size es.length bs.length a0 b0 ec bc s)) (C w es bs a0 b0 ec bc) Q 8 o:=by
 refine gh.step_val (by rw [hop]; simp) fun s L W hdp h0 hC=>⟨{ s with xe:=s.ve,xb:=s.vb },.agg #[s.ve,s.vb],dk.agree_sets 8 11 _ hdst rfl rfl,(fun d hd=>by rw [hdst] at hd; cases hd; exact dk.sets_on _ (by omega) _ rfl),?_⟩
 obtain ⟨x3,m3,y3,z3⟩:=hd3
 have l3:=hdp x3 m3 y3
 rw [z3] at l3
 obtain ⟨x7,m7,y7,z7⟩:=hd7
 have l7:=hdp x7 m7 y7
 rw [z7] at l7
 have hC:D w es bs a0 b0 ec bc s (L 0) (L 3) (L 4) (L 7) (L 8) (L 9) W:=hC
 have e6:(dk.sets act (ws w.heap.size es.length bs.length a0 b0 ec bc s)).tmps[6]?=some s.ve:=dk.sets_on _ (by omega) _ rfl
 have e10:(dk.sets act (ws w.heap.size es.length bs.length a0 b0 ec bc s)).tmps[10]?=some s.vb:=dk.sets_on _ (by omega) _ rfl
 obtain ⟨ua,uc,hu,_⟩:=own_row cE_len (hC.at3 l3).2
 obtain ⟨va,vc,hv,_⟩:=own_row cB_len (hC.at7 l7).2
 have hrun:(execOp (dk.sets act (ws w.heap.size es.length bs.length a0 b0 ec bc s)).eval o).run Tryz.prog W=.ok (.value (.agg #[s.ve,s.vb])) W:=by
  rw [hu] at e6 ⊢
  rw [hv] at e10 ⊢
  simp [execOp,hop,e6,e10,go_sem]
 rw [hrun]
 refine ⟨rfl,?_⟩
 have l9:L 9=false:=by
  cases h:L 9 with
  | false=>rfl
  | true=>have:=hC.at9 h; rw [h0] at this; cases this
 show D w es bs a0 b0 ec bc _ (L 0) (L 3) (L 4) (L 7) true (L 9) _
 have hrs:=hC.res
 rw [l9] at hrs ⊢
 exact ⟨hC.bel,hC.box,hrs,hC.at0,hC.at3,hC.at4,hC.at7,fun _=>⟨l3,l7,rfl,rfl⟩,fun e=>(by cases e),hC.nn⟩
theorem st9 {o:Oper} (hsz:11 < act.tmps.size) (h2s:act.tmps[2]?=some (.pointer (some ⟨w.heap.size+1,0,none⟩))) (hop:o.op=.store 34 (.tmp 2) (.tmp 11)) (hdst:o.dst=none) (hd8:∃ e ∈ o.after,Region.binds .any e=true/\e.on=8):gh.Step Tryz.prog (fun s=>dk.sets act (ws w.heap.size es.length bs.length a0 b0 ec bc s)) (C w es bs a0 b0 ec bc) Q 9 o:=by
 refine gh.step_val (by rw [hop]; simp) fun s L W hdp h0 hC=>⟨s,undef,gh.Agree.refl _ _,(fun d hd=>by rw [hdst] at hd; cases hd),?_⟩
 obtain ⟨x8,m8,y8,z8⟩:=hd8
 have l8:=hdp x8 m8 y8
 rw [z8] at l8
 have hC:D w es bs a0 b0 ec bc s (L 0) (L 3) (L 4) (L 7) (L 8) (L 9) W:=hC
 obtain ⟨l3,l7,hxe,hxb⟩:=hC.at8 l8
 obtain ⟨ua,uc,hu,_⟩:=own_row cE_len (hC.at3 l3).2
 obtain ⟨va,vc,hv,_⟩:=own_row cB_len (hC.at7 l7).2
 have e2:(dk.sets act (ws w.heap.size es.length bs.length a0 b0 ec bc s)).tmps[2]?=some (.pointer (some ⟨w.heap.size+1,0,none⟩)):=(dk.sets_off act 2 _ (by simp [ws])).trans h2s
 have e11:(dk.sets act (ws w.heap.size es.length bs.length a0 b0 ec bc s)).tmps[11]?=some (.agg #[s.xe,s.xb]):=dk.sets_on _ (by omega) _ rfl
 have hrs:=hC.res
 rw [h0] at hrs
 have c0:W.cell? ⟨w.heap.size+1,0,none⟩=some (.slice none 0 0):=bcell hrs rfl
 have c1:W.cell? ⟨w.heap.size+1,1,none⟩=some (.slice none 0 0):=bcell hrs rfl
 have f0:=bfree hrs 0
 have f1:=bfree hrs 1
 have hrun:(execOp (dk.sets act (ws w.heap.size es.length bs.length a0 b0 ec bc s)).eval o).run Tryz.prog W=.ok .skip ((W.setCell ⟨w.heap.size+1,0,none⟩ s.xe).setCell ⟨w.heap.size+1,1,none⟩ s.xb):=by
  rw [hxe,hu,hxb,hv] at e11
  rw [hxe,hu,hxb,hv]
  simp [execOp,hop,e2,e11,go_sem,c0,c1,f0,f1]
 rw [hrun]
 refine ⟨rfl,?_⟩
 show D w es bs a0 b0 ec bc _ (L 0) (L 3) (L 4) (L 7) (L 8) true _
 have hg:W.grownBy ((W.setCell ⟨w.heap.size+1,0,none⟩ s.xe).setCell ⟨w.heap.size+1,1,none⟩ s.xb) (some (w.heap.size+1)):=db.gb_set (db.gb_set (db.gb_refl _ _) 0 _) 1 _
 have hsz:w.heap.size <= w.heap.size+1:=Nat.le_succ _
 refine ⟨(hC.bel.setCell hsz _).setCell hsz _,boff (boff hC.box _ _ _ (by omega)) _ _ _ (by omega),bset (bset hrs 0 _) 1 _,fun _ e=>(by rw [l3] at e; cases e),fun e=>⟨(hC.at3 e).1,(hC.at3 e).2.kept hg (.inr (apart (hC.at3 e).2 hrs (by decide)))⟩,fun _ e=>(by rw [l7] at e; cases e),fun e=>⟨(hC.at7 e).1,(hC.at7 e).2.kept hg (.inr (apart (hC.at7 e).2 hrs (by decide)))⟩,hC.at8,fun _=>l8,hC.nn⟩
end
theorem spec_copy (es:List Ex) (bs:List Bi) (a0 b0 ec bc:Nat) (w:World) (hel:es.length <= 1048576) (hbl:bs.length <= 1048576) (hE:RE w a0 es) (hB:RB w b0 bs) :
  Calls Tryz.prog 41 #[.agg #[.slice (some ⟨a0,0,none⟩) es.length ec,.slice (some ⟨b0,0,none⟩) bs.length bc]] w fun r w'=>∃ g1 c1 h1 c2,r=.returned (.agg #[.slice (some ⟨g1,0,none⟩) es.length c1,.slice (some ⟨h1,0,none⟩) bs.length c2])/\w'.ownsRow (w.heap.size+2) 137 2 (.slice (some ⟨g1,0,none⟩) es.length c1) es.length (es.flatMap cE)/\w'.ownsRow (w.heap.size+2) 138 3 (.slice (some ⟨h1,0,none⟩) bs.length c2) bs.length (bs.flatMap cB)/\Below w.heap.size w w':=by
 have h0:D w es bs a0 b0 ec bc ⟨0,0,.slice none 0 0,.slice none 0 0,.slice none 0 0,.slice none 0 0⟩ false false false false false false ((w.alloc (.cells #[.slice (some ⟨a0,0,none⟩) es.length ec,.slice (some ⟨b0,0,none⟩) bs.length bc] 34)).alloc (.cells #[.slice none 0 0,.slice none 0 0] 34)).drew:=by
  refine ⟨(((Below.refl _ _).alloc (Nat.le_refl _) _).alloc (by simp) _).drew,bold (bnew w _ _) _,?_,by simp,by simp,by simp,by simp,by simp,by simp,by simp⟩
  have:=bnew (w.alloc (.cells #[.slice (some ⟨a0,0,none⟩) es.length ec,.slice (some ⟨b0,0,none⟩) bs.length bc] 34)) #[.slice none 0 0,.slice none 0 0] 34
  rw [World.size_alloc] at this
  exact this
 have HE:Hid (RE w a0 es):=hE
 have HB:Hid (RB w b0 bs):=hB
 clear hE hB
 go_enter Tryz.func41,Tryz.ntmps41
 go_wp2
 refine dk.region_gsets (ws w.heap.size es.length bs.length a0 b0 ec bc) [3,4,5,6,7,8,9,10,11] (C w es bs a0 b0 ec bc) ⟨0,0,.slice none 0 0,.slice none 0 0,.slice none 0 0,.slice none 0 0⟩ (by kernel_rfl) (by kernel_rfl) (fun _=>rfl) (by kernel_rfl) h0 ?each ?fin
 case each =>
  refine ⟨st0 (by simp) rfl rfl,?_⟩
  refine ⟨quiet (by decide) (by simp) (.pointer (some ⟨w.heap.size,0,none⟩)) (by rintro s _ ⟨⟩; exact dk.sets_on _ (by simp) _ rfl) (fun s W h=>by simp [execOp,go_sem,Act.eval,dk.sets_get,ws,List.lookup]),?_⟩
  refine ⟨quiet (by decide) (by simp) (.slice (some ⟨a0,0,none⟩) es.length ec) (by rintro s _ ⟨⟩; exact dk.sets_on _ (by simp) _ rfl) (fun s W h=>by have c:W.cell? ⟨w.heap.size,0,none⟩=some (.slice (some ⟨a0,0,none⟩) es.length ec):=bcell h rfl; simp [execOp,go_sem,Act.eval,dk.sets_get,ws,List.lookup,c]),?_⟩
  refine ⟨st3 hel HE.out (by simp) rfl rfl ⟨⟨0,.data⟩,by simp,rfl,rfl⟩,?_⟩
  refine ⟨st4 (by simp) rfl rfl,?_⟩
  refine ⟨quiet (by decide) (by simp) (.pointer (some ⟨w.heap.size,1,none⟩)) (by rintro s _ ⟨⟩; exact dk.sets_on _ (by simp) _ rfl) (fun s W h=>by simp [execOp,go_sem,Act.eval,dk.sets_get,ws,List.lookup]),?_⟩
  refine ⟨quiet (by decide) (by simp) (.slice (some ⟨b0,0,none⟩) bs.length bc) (by rintro s _ ⟨⟩; exact dk.sets_on _ (by simp) _ rfl) (fun s W h=>by have c:W.cell? ⟨w.heap.size,1,none⟩=some (.slice (some ⟨b0,0,none⟩) bs.length bc):=bcell h rfl; simp [execOp,go_sem,Act.eval,dk.sets_get,ws,List.lookup,c]),?_⟩
  exact ⟨st7 hbl HB.out (by simp) rfl rfl ⟨⟨4,.data⟩,by simp,rfl,rfl⟩,st8 (by simp) rfl rfl ⟨⟨3,.data⟩,by simp,rfl,rfl⟩ ⟨⟨7,.data⟩,by simp,rfl,rfl⟩,st9 (by simp) rfl rfl rfl ⟨⟨8,.data⟩,by simp,rfl,rfl⟩,trivial⟩
 case fin =>
  intro g L W hL hC
  have hD:D w es bs a0 b0 ec bc g true true true true true true W:=by
   have h:D w es bs a0 b0 ec bc g (L 0) (L 3) (L 4) (L 7) (L 8) (L 9) W:=hC
   rw [hL 0 (by decide),hL 3 (by decide),hL 4 (by decide),hL 7 (by decide),hL 8 (by decide),hL 9 (by decide)] at h
   exact h
  obtain ⟨_,_,hxe,hxb⟩:=hD.at8 rfl
  obtain ⟨_,oe⟩:=hD.at3 rfl
  obtain ⟨_,ob⟩:=hD.at7 rfl
  have hrs:=hD.res
  have hbel:=hD.bel
  rw [hxe,hxb] at hrs
  obtain ⟨g1,ce,hve,_,_⟩:=form oe (hD.nn.1 rfl)
  obtain ⟨h1,cb,hvb,_,_⟩:=form ob (hD.nn.2 rfl)
  simp only [dk.sets,ws,hxe,hxb]
  rw [hve] at oe hrs ⊢
  rw [hvb] at ob hrs ⊢
  clear hD hC hL h0 hxe hxb hve hvb
  have r0:W.cell? ⟨w.heap.size+1,0,none⟩=some (.slice (some ⟨g1,0,none⟩) es.length ce):=bcell hrs rfl
  have r1:W.cell? ⟨w.heap.size+1,1,none⟩=some (.slice (some ⟨h1,0,none⟩) bs.length cb):=bcell hrs rfl
  have OE:Hid (W.ownsRow (w.heap.size+2) 137 2 (.slice (some ⟨g1,0,none⟩) es.length ce) es.length (es.flatMap cE)):=oe
  have OB:Hid (W.ownsRow (w.heap.size+2) 138 3 (.slice (some ⟨h1,0,none⟩) bs.length cb) bs.length (bs.flatMap cB)):=ob
  clear oe ob hrs
  go_wp2
  exact bodyPost_ret (v:=.agg #[.slice (some ⟨g1,0,none⟩) es.length ce,.slice (some ⟨h1,0,none⟩) bs.length cb]) (by simp [results,Tryz.results41,go_sem,r0,r1]) rfl ⟨g1,ce,h1,cb,rfl,OE.out,OB.out,hbel⟩
end Go.Proofs.YtaoefccgdfcchaaGreat.sc
namespace Go.Proofs.YtaoefccgdfcchaaGreat.ce
open ChangeShapes WideShapes ChangeAt RowKit fl fo
def RYo (w:World) (g off:Nat) (l:List flY.En):Prop:=g < w.heap.size/\∀ (i:Nat) (e:flY.En),l[i]?=some e->w.cell? ⟨g,off+i*3,none⟩=some (.int .i64 e.o)/\w.cell? ⟨g,off+i*3+1,none⟩=some (.int .i64 e.t)/\w.cell? ⟨g,off+i*3+2,none⟩=some (.string e.b)
theorem RYo.below {w w':World} {g off:Nat} {l:List flY.En} (h:RYo w g off l) (hb:Below w.heap.size w w'):RYo w' g off l :=
 ⟨Nat.lt_of_lt_of_le h.1 hb.size,fun i e he=>⟨(hb.cell (p:=⟨g,_,none⟩) h.1).trans (h.2 i e he).1,(hb.cell (p:=⟨g,_,none⟩) h.1).trans (h.2 i e he).2.1,(hb.cell (p:=⟨g,_,none⟩) h.1).trans (h.2 i e he).2.2⟩⟩
theorem ryo {w:World} {g:Nat} {l:List flY.En} (h:st.RY w g l):RYo w g 0 l:=⟨h.1,fun i e he=>by rw [Nat.zero_add]; exact h.2 i e he⟩
theorem RYo.part {w:World} {g:Nat} {l:List flY.En} (h:st.RY w g l) (d m:Nat):RYo w g (d*3) ((l.drop d).take m):=⟨h.1,fun i e he=>by
 have hi:i < m:=by
  have:=(List.getElem?_eq_some_iff.1 he).1
  rw [List.length_take] at this
  omega
 rw [List.getElem?_take_of_lt hi,List.getElem?_drop] at he
 have:=h.2 (d+i) e he
 rw [Nat.add_mul] at this
 exact this⟩
theorem box {wr w1:World} {n k:Nat} {l:List flY.En} {eo et:Int} {eb:ByteArray} (hf:Own flY.c 3 134 wr n l k) (hb1:Below (wr.alloc (.cells #[.int .i64 eo,.int .i64 et,.string eb] 134)).heap.size (wr.alloc (.cells #[.int .i64 eo,.int .i64 et,.string eb] 134)) w1) :
  w1.heap[wr.heap.size]?=some (.cells #[.int .i64 eo,.int .i64 et,.string eb] 134 (0,0))/\Own flY.c 3 134 (w1.setCell ⟨wr.heap.size,2,none⟩ (.string eb)) n l k/\n ≠ wr.heap.size:=by
 have hn:=hf.lt
 have hx:=bstay (bnew wr #[.int .i64 eo,.int .i64 et,.string eb] 134) hb1 (by simp)
 refine ⟨hx,?_,by omega⟩
 refine ((hf.kept (Below.heap_alloc wr _ n hn)).below hb1 (by simp; omega)).kept (Below.heap_setCell _ _ _ _ (by show n ≠ wr.heap.size; omega))
theorem copy_entries (l:List flY.En) (g off cap:Nat) (w:World) (hl:l.length <= 1048576) (hbd:∀ e ∈ l,e.b.size <= 1048576) (hY:RYo w g off l) :
  Calls Tryz.prog 106 #[.slice (some ⟨g,off,none⟩) l.length cap] w fun e w'=>e=.returned (.slice (some ⟨w.heap.size,0,none⟩) l.length l.length)/\Own flY.c 3 134 w' w.heap.size l l.length/\Below w.heap.size w w':=by
 obtain ⟨i0,hi,hz0,hz1,hz2⟩:∃ i0,Tryz.prog.info? 134=some i0/\i0.zero=some (.agg #[.int .i64 0,.int .i64 0,.string ByteArray.empty])/\i0.size=3/\i0.bytes=32:=by
  have h:=flY.info
  cases hh:Tryz.prog.info? 134 with
  | none=>rw [hh] at h; cases h
  | some i=>rw [hh] at h; simp at h; exact ⟨i,rfl,h.1,h.2.1,h.2.2⟩
 have hmk:=run_makeSlice (P:=Tryz.prog) w 51 134 i0 _ Tryz.underlying51 hi hz0 .i64 .i64 (l.length:Int) (l.length:Int) (by omega) (Int.le_refl _) (by rw [hz1]; simp; omega) (by rw [hz2]; omega) (by omega)
 rw [hz1,show ((l.length:Int)).toNat=l.length by omega] at hmk
 have hmk2:(Instr.makeSlice 51 (.int .i64 (l.length:Int)) (.int .i64 (l.length:Int))).run Tryz.prog w=.ok (.slice (some ⟨w.heap.size,0,none⟩) l.length l.length) (w.alloc (.cells (madeCells #[.int .i64 0,.int .i64 0,.string ByteArray.empty] (l.length*3)) 134)):=hmk
 have hf0:Own flY.c 3 134 (w.alloc (.cells (madeCells #[.int .i64 0,.int .i64 0,.string ByteArray.empty] (l.length*3)) 134)) w.heap.size l 0:=made #[.int .i64 0,.int .i64 0,.string ByteArray.empty].toList w l rfl
 have hb0:=fl.bl w (.cells (madeCells #[.int .i64 0,.int .i64 0,.string ByteArray.empty] (l.length*3)) 134)
 obtain ⟨W,hW⟩:∃ W,w.alloc (.cells (madeCells #[.int .i64 0,.int .i64 0,.string ByteArray.empty] (l.length*3)) 134)=W:=⟨_,rfl⟩
 rw [hW] at hmk2 hf0 hb0
 have HF0:Hid (Own flY.c 3 134 W w.heap.size l 0):=hf0
 clear hmk hW hf0
 have HY:Hid (RYo w g off l):=hY
 have HBD:Hid (∀ e ∈ l,e.b.size <= 1048576):=hbd
 clear hY hbd
 go_enter Tryz.func106,Tryz.ntmps106
 go_wp2
 go_loopw [11,4,5] (fun x _ _ wr=>∃ k:Nat,k <= l.length/\x=.int .i64 k/\Below w.heap.size w wr/\Hid (Own flY.c 3 134 wr w.heap.size l k)) (fun x _ _ _=>l.length - (intOf x).toNat)
 case atStart=>exact ⟨0,Nat.zero_le _,rfl,hb0,HF0⟩
 case round =>
  obtain ⟨k,hk,rfl,hbel,hf⟩:=hrel
  have hbs:=hbel.size
  by_cases hkl:k < l.length
  ·have g0:l[k]?=some l[k]:=List.getElem?_eq_getElem hkl
   have hsz:=HBD.out l[k] (List.getElem_mem hkl)
   obtain ⟨c0,c1,c2⟩:=(HY.out.below hbel).2 k _ g0
   have HG:Hid (l[k]?=some l[k]):=g0
   obtain ⟨⟨eo,et,eb⟩,he⟩:∃ e,l[k]=e:=⟨_,rfl⟩
   rw [he] at c0 c1 c2 HG hsz
   have hcl:=fun W=>cl.clone eb W (by have:eb.size <= 1048576:=hsz; omega)
   have i2:(k:Int) < (l.length:Int):=by omega
   have p0:k*3 < l.length*3:=by omega
   have p1:k*3+1 < l.length*3:=by omega
   have p2:k*3+2 < l.length*3:=by omega
   have hws:w.heap.size <= wr.heap.size:=hbs
   clear g0 he
   go_wp2_with (go_at_call 26; refine (hcl _).mono ?_; rintro e w1 ⟨rfl,hb1⟩; obtain ⟨hx,hf1,hne⟩:=box hf.out hb1; have y0:w1.cell? ⟨wr.heap.size,0,none⟩=some (.int .i64 eo):=bcell hx rfl; have y1:w1.cell? ⟨wr.heap.size,1,none⟩=some (.int .i64 et):=bcell hx rfl; have y2:w1.cell? ⟨wr.heap.size,2,none⟩=some (.string eb):=bcell hx rfl; have yf:=bfree hx 2; have hne2:wr.heap.size ≠ w.heap.size:=fun e=>hne e.symm; obtain ⟨v0,g0⟩:=hf1.at (k*3) p0; have z0:=hf1.free (k*3); obtain ⟨v1,g1⟩:=hf1.at (k*3+1) p1; have z1:=hf1.free (k*3+1); obtain ⟨v2,g2⟩:=hf1.at (k*3+2) p2; have z2:=hf1.free (k*3+2); have HN:Hid (Own flY.c 3 134 ((((w1.setCell ⟨wr.heap.size,2,none⟩ (.string eb)).setCell ⟨w.heap.size,k*3,none⟩ (.int .i64 eo)).setCell ⟨w.heap.size,k*3+1,none⟩ (.int .i64 et)).setCell ⟨w.heap.size,k*3+2,none⟩ (.string eb)) w.heap.size l (k+1)):=flY.own_set eo et eb hf1 HG.out; have hbw:Below w.heap.size w (w1.setCell ⟨wr.heap.size,2,none⟩ (.string eb)):=((hbel.alloc hbs _).trans (hb1.mono (by simp; omega))).setCell hws _; clear hf1)
   go_roundw
   case rel=>exact ⟨k+1,by omega,by go_num,((hbw.setCell (Nat.le_refl _) _).setCell (Nat.le_refl _) _).setCell (Nat.le_refl _) _,HN⟩
   case measure=>simp [intOf]; omega
  ·obtain rfl:k=l.length:=by omega
   go_wp2
   go_ret
   exact ⟨rfl,hf.out,hbel⟩
end Go.Proofs.YtaoefccgdfcchaaGreat.ce
namespace Go.Proofs.YtaoefccgdfcchaaGreat.srd
open ChangeShapes WideShapes ChangeAt RowKit fl fo rr st ce
theorem own_empty (w:World) (B:Nat) (U:TypeId) (s:Nat) (hB:B <= w.heap.size):(w.alloc (.cells #[] U)).ownsRow B U s (.slice (some ⟨w.heap.size,0,none⟩) 0 0) 0 [] :=
 ⟨by simp,.inr ⟨w.heap.size,0,#[],rfl,hB,bnew w _ _,Nat.le_refl _,by unfold maxLen; omega,by simp,by simp⟩⟩
end Go.Proofs.YtaoefccgdfcchaaGreat.srd
