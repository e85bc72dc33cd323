/- SpecCopyS, StepCall, ChainKit, QuAll, SuAll. -/
import Derived.Test.YtaoefccgdfcchaaGreatKq28
import Derived.Test.YtaoefccgdfcchaaGreatKq10
import Derived.Test.YtaoefccgdfcchaaGreatKq08
import Derived.Test.YtaoefccgdfcchaaGreatKq20
import Derived.ArgAppend
import Derived.Lib.SliceRun
import Derived.Test.YtaoefccgdfcchaaGreatKq09
set_option maxRecDepth 100000
set_option maxHeartbeats 8000000
set_option linter.unusedVariables false
namespace Go.Proofs.YtaoefccgdfcchaaGreat.scp
open ChangeShapes WideShapes ChangeAt RowKit fl fo rr st srd
theorem form {w:World} {B n:Nat} {U:TypeId} {s:Nat} {v:Value} {xs:List Value} (h:w.ownsRow B U s v n xs) (hv:v ≠ .slice none 0 0):∃ g cap,v=.slice (some ⟨g,0,none⟩) n cap/\B <= g/\g < w.heap.size:=by
 obtain ⟨_,⟨rfl,h0⟩ | ⟨g,cap,cur,rfl,hB,hg,_⟩⟩:=h
 ·exact absurd rfl hv
 ·exact ⟨g,cap,rfl,hB,(Array.getElem?_eq_some_iff.1 hg).1⟩
theorem add_at (g o j:Nat):(⟨g,o,none⟩:Addr).add j=⟨g,o+j,none⟩:=by unfold Addr.add; split <;> simp_all
theorem newsY {w:World} {g:Nat} {es:List flY.En} (h:RY w g es):∀ (j:Nat) (u:Value),(es.flatMap flY.c)[j]?=some u->w.cell? ((⟨g,0,none⟩:Addr).add j)=some u:=fun j u hu=>by
 obtain ⟨i,e,r,h1,h2,rfl⟩:=flat_get flY.c_len es j u hu
 rw [add_at,Nat.zero_add]
 obtain ⟨a0,a1,a2⟩:=h.2 i e h1
 match r,h2 with
 | 0,h2=>cases h2; exact a0
 | 1,h2=>cases h2; exact a1
 | 2,h2=>cases h2; exact a2
 | r+3,h2=>simp [flY.c] at h2
theorem newsK {w:World} {g:Nat} {ms:List Ex} (h:RE w g ms):∀ (j:Nat) (u:Value),(ms.flatMap flK.c)[j]?=some u->w.cell? ((⟨g,0,none⟩:Addr).add j)=some u:=fun j u hu=>by
 obtain ⟨i,e,r,h1,h2,rfl⟩:=flat_get flK.c_len ms j u hu
 rw [add_at,Nat.zero_add]
 obtain ⟨a0,a1⟩:=h.2 i e h1
 match r,h2 with
 | 0,h2=>cases h2; exact a0
 | 1,h2=>cases h2; exact a1
 | r+2,h2=>simp [flK.c] at h2
theorem oneY (es:List flY.En):∀ u ∈ es.flatMap flY.c,u.oneCell'=true:=fun u hu=>by
 obtain ⟨e,_,he⟩:=List.mem_flatMap.1 hu
 simp [flY.c] at he
 rcases he with rfl | rfl | rfl <;> rfl
theorem oneK (ms:List Ex):∀ u ∈ ms.flatMap flK.c,u.oneCell'=true:=fun u hu=>by
 obtain ⟨e,_,he⟩:=List.mem_flatMap.1 hu
 simp [flK.c] at he
 rcases he with rfl | rfl <;> rfl
theorem infoY:∃ i0,Tryz.prog.info? 134=some i0/\i0.zero=some (.agg #[.int .i64 0,.int .i64 0,.string ByteArray.empty])/\i0.size=3/\i0.bytes=32:=by
 have h:=flY.info
 cases hh:Tryz.prog.info? 134 with
 | none=>rw [hh] at h; cases h
 | some i=>rw [hh] at h; simp at h; exact ⟨i,rfl,h.1,h.2.1,h.2.2⟩
theorem infoK:∃ i0,Tryz.prog.info? 136=some i0/\i0.zero=some (.agg #[.string ByteArray.empty,.int .i64 0])/\i0.size=2/\i0.bytes=24:=by
 have h:=flK.info
 cases hh:Tryz.prog.info? 136 with
 | none=>rw [hh] at h; cases h
 | some i=>rw [hh] at h; simp at h; exact ⟨i,rfl,h.1,h.2.1,h.2.2⟩
theorem grown_at {w w':World} {r:Option Nat} {b:Nat} {o:Obj} (hg:w.grownBy w' r) (h:w.heap[b]?=some o) (hr:r ≠ some b):w'.heap[b]?=some o:=(hg.block b (Array.getElem?_eq_some_iff.1 h).1 (fun e=>hr e.symm)).trans h
theorem own_set {w:World} {B n:Nat} {U:TypeId} {s:Nat} {v:Value} {xs:List Value} (h:w.ownsRow B U s v n xs) (b o:Nat) (u:Value) (hb:b < B):(w.setCell ⟨b,o,none⟩ u).ownsRow B U s v n xs:=by
 obtain ⟨h0,h1 | ⟨g,cap,cur,h1,h2,h3,h4⟩⟩:=h
 ·exact ⟨h0,.inl h1⟩
 ·exact ⟨h0,.inr ⟨g,cap,cur,h1,h2,boff h3 b o u (by omega),h4⟩⟩
theorem own_low {w:World} {B B' n:Nat} {U:TypeId} {s:Nat} {v:Value} {xs:List Value} (h:w.ownsRow B U s v n xs) (hb:B' <= B):w.ownsRow B' U s v n xs:=by
 obtain ⟨h0,h1 | ⟨g,cap,cur,h1,h2,h3⟩⟩:=h
 ·exact ⟨h0,.inl h1⟩
 ·exact ⟨h0,.inr ⟨g,cap,cur,h1,by omega,h3⟩⟩
theorem apart {w:World} {B n m g h c1 c2:Nat} {xs ys:List Value} (h1:w.ownsRow B 134 3 (.slice (some ⟨g,0,none⟩) n c1) n xs) (h2:w.ownsRow B 136 2 (.slice (some ⟨h,0,none⟩) m c2) m ys):g ≠ h:=by
 obtain ⟨_,⟨h1,_⟩ | ⟨g1,cap,cur,h1,_,h3,_⟩⟩:=h1
 ·cases h1
 obtain ⟨_,⟨h2,_⟩ | ⟨g2,cap2,cur2,h2,_,h4,_⟩⟩:=h2
 ·cases h2
 cases h1
 cases h2
 rintro rfl
 rw [h3] at h4
 simp at h4
def sets (w:World) (a b:Nat) (u x0 x1 x2 x3 x4:Value):World:=(((((w.setCell ⟨a,4,none⟩ u).setCell ⟨b,0,none⟩ x0).setCell ⟨b,1,none⟩ x1).setCell ⟨b,2,none⟩ x2).setCell ⟨b,3,none⟩ x3).setCell ⟨b,4,none⟩ x4
theorem own_sets {w:World} {B n a b:Nat} {U:TypeId} {s:Nat} {v u x0 x1 x2 x3 x4:Value} {xs:List Value} (h:w.ownsRow B U s v n xs) (hb:a < B/\b < B):(sets w a b u x0 x1 x2 x3 x4).ownsRow B U s v n xs :=
 own_set (own_set (own_set (own_set (own_set (own_set h _ _ _ hb.1) _ _ _ hb.2) _ _ _ hb.2) _ _ _ hb.2) _ _ _ hb.2) _ _ _ hb.2
theorem sets_below {w0 w:World} {a b:Nat} {u x0 x1 x2 x3 x4:Value} (h:Below w0.heap.size w0 w) (ha:w0.heap.size <= a/\w0.heap.size <= b):Below w0.heap.size w0 (sets w a b u x0 x1 x2 x3 x4) :=
 (((((h.setCell ha.1 _).setCell ha.2 _).setCell ha.2 _).setCell ha.2 _).setCell ha.2 _).setCell ha.2 _
theorem spec_copy (sn:ByteArray) (lo nx:Int) (es:List flY.En) (ms:List Ex) (g h cg ch:Nat) (w:World) (F:Fit sn es ms) (hY:RY w g es) (hE:RE w h ms) :
  Calls Tryz.prog 43 #[.agg #[.string sn,.int .i64 lo,.int .i64 nx,.slice (some ⟨g,0,none⟩) es.length cg,.slice (some ⟨h,0,none⟩) ms.length ch]] w fun e w'=>∃ g1 c1 h1 c2,e=.returned (.agg #[.string sn,.int .i64 lo,.int .i64 nx,.slice (some ⟨g1,0,none⟩) es.length c1,.slice (some ⟨h1,0,none⟩) ms.length c2])/\w'.ownsRow w.heap.size 134 3 (.slice (some ⟨g1,0,none⟩) es.length c1) es.length (es.flatMap flY.c)/\w'.ownsRow w.heap.size 136 2 (.slice (some ⟨h1,0,none⟩) ms.length c2) ms.length (ms.flatMap flK.c)/\g1 ≠ h1/\Below w.heap.size w w':=by
 obtain ⟨i0,hi,hz0,hz1,hz2⟩:=infoY
 obtain ⟨i1,ki,kz0,kz1,kz2⟩:=infoK
 have hel:=F.el
 have hml:=F.ml
 have hb:Below w.heap.size w (((w.alloc (.cells #[.string sn,.int .i64 lo,.int .i64 nx,.slice (some ⟨g,0,none⟩) es.length cg,.slice (some ⟨h,0,none⟩) ms.length ch] 54)).alloc (.cells #[.string ⟨#[]⟩,.int .i64 0,.int .i64 0,.slice none 0 0,.slice none 0 0] 54)).alloc (.cells #[] 134)):=(((Below.refl _ _).alloc (Nat.le_refl _) _).alloc (by simp) _).alloc (by simp; omega) _
 have hA:=bold (bold (bnew w #[.string sn,.int .i64 lo,.int .i64 nx,.slice (some ⟨g,0,none⟩) es.length cg,.slice (some ⟨h,0,none⟩) ms.length ch] 54) (.cells #[.string ⟨#[]⟩,.int .i64 0,.int .i64 0,.slice none 0 0,.slice none 0 0] 54)) (.cells #[] 134)
 have hR:=bold (bnew (w.alloc (.cells #[.string sn,.int .i64 lo,.int .i64 nx,.slice (some ⟨g,0,none⟩) es.length cg,.slice (some ⟨h,0,none⟩) ms.length ch] 54)) #[.string ⟨#[]⟩,.int .i64 0,.int .i64 0,.slice none 0 0,.slice none 0 0] 54) (.cells #[] 134)
 rw [World.size_alloc] at hR
 have ho:=own_empty ((w.alloc (.cells #[.string sn,.int .i64 lo,.int .i64 nx,.slice (some ⟨g,0,none⟩) es.length cg,.slice (some ⟨h,0,none⟩) ms.length ch] 54)).alloc (.cells #[.string ⟨#[]⟩,.int .i64 0,.int .i64 0,.slice none 0 0,.slice none 0 0] 54)) (w.heap.size+2) 134 3 (by simp)
 have hS:(((w.alloc (.cells #[.string sn,.int .i64 lo,.int .i64 nx,.slice (some ⟨g,0,none⟩) es.length cg,.slice (some ⟨h,0,none⟩) ms.length ch] 54)).alloc (.cells #[.string ⟨#[]⟩,.int .i64 0,.int .i64 0,.slice none 0 0,.slice none 0 0] 54)).alloc (.cells #[] 134)).heap.size=w.heap.size+3:=by simp
 have hS2:((w.alloc (.cells #[.string sn,.int .i64 lo,.int .i64 nx,.slice (some ⟨g,0,none⟩) es.length cg,.slice (some ⟨h,0,none⟩) ms.length ch] 54)).alloc (.cells #[.string ⟨#[]⟩,.int .i64 0,.int .i64 0,.slice none 0 0,.slice none 0 0] 54)).heap.size=w.heap.size+2:=by simp
 rw [hS2] at ho
 obtain ⟨W,hW⟩:∃ W,((w.alloc (.cells #[.string sn,.int .i64 lo,.int .i64 nx,.slice (some ⟨g,0,none⟩) es.length cg,.slice (some ⟨h,0,none⟩) ms.length ch] 54)).alloc (.cells #[.string ⟨#[]⟩,.int .i64 0,.int .i64 0,.slice none 0 0,.slice none 0 0] 54)).alloc (.cells #[] 134)=W:=⟨_,rfl⟩
 rw [hW] at hb hA hR ho hS
 have HYW:Hid (RY W g es):=hY.below hb
 have HEw:Hid (RE w h ms):=hE
 have x3:W.cell? ⟨w.heap.size,3,none⟩=some (.slice (some ⟨g,0,none⟩) es.length cg):=bcell hA rfl
 have x3f:=bfree hA 3
 have HA:Hid (W.heap[w.heap.size]?=some (.cells #[.string sn,.int .i64 lo,.int .i64 nx,.slice (some ⟨g,0,none⟩) es.length cg,.slice (some ⟨h,0,none⟩) ms.length ch] 54 (0,0))):=hA
 have HR:Hid (W.heap[w.heap.size+1]?=some (.cells #[.string ⟨#[]⟩,.int .i64 0,.int .i64 0,.slice none 0 0,.slice none 0 0] 54 (0,0))):=hR
 have HO:Hid (W.ownsRow (w.heap.size+2) 134 3 (.slice (some ⟨w.heap.size+2,0,none⟩) 0 0) 0 []):=ho
 clear hY hE hA hR ho F
 go_enter Tryz.func43,Tryz.ntmps43
 go_wp2_with (at_builtin; refine wpList_append_own _ rfl _ _ 51 rfl (w.heap.size+2) 134 i0 (.agg #[.int .i64 0,.int .i64 0,.string ByteArray.empty]) 3 32 Tryz.underlying51 hi hz0 hz1 hz2 rfl (by decide) _ 0 [] rfl (by exact HO.out) ⟨g,0,none⟩ es.length cg (es.flatMap flY.c) rfl (flat_len flY.c_len es) (by exact newsY HYW.out) (oneY es) (by unfold maxLen; omega) (by omega) (by omega) ?_)
 intro v1 w1 hown1 hgrow1 hnil1
 obtain ⟨g1,c1,rfl,hg1,hg1l⟩:=form hown1 (fun e=>by first | exact hnil1 e | (have:=hnil1.1 e; cases this.1))
 have hgr1:W.grownBy w1 (some (w.heap.size+2)):=hgrow1
 have a1:=grown_at hgr1 HA.out (by simp)
 have r1:=grown_at hgr1 HR.out (by simp)
 have hs1:=hgr1.size
 have y3:w1.cell? ⟨w.heap.size,3,none⟩=some (.slice (some ⟨g,0,none⟩) es.length cg):=bcell a1 rfl
 have y3f:=bfree a1 3
 have hb1:Below w.heap.size w w1:=hb.grown hgr1 (by omega) (fun b hb=>by cases hb; omega)
 -- the row is stored,and the second empty row laid
 have a2:=bold (bset a1 3 (.slice (some ⟨g1,0,none⟩) es.length c1)) (.cells #[] 136)
 have r2:=bold (boff r1 w.heap.size 3 (.slice (some ⟨g1,0,none⟩) es.length c1) (by omega)) (.cells #[] 136)
 have hb2:Below w.heap.size w ((w1.setCell ⟨w.heap.size,3,none⟩ (.slice (some ⟨g1,0,none⟩) es.length c1)).alloc (.cells #[] 136)):=(hb1.setCell (Nat.le_refl _) _).alloc (by simp; omega) _
 have hsz2:(w1.setCell ⟨w.heap.size,3,none⟩ (.slice (some ⟨g1,0,none⟩) es.length c1)).heap.size=w1.heap.size:=by simp
 have o2:=own_empty (w1.setCell ⟨w.heap.size,3,none⟩ (.slice (some ⟨g1,0,none⟩) es.length c1)) (w.heap.size+2) 136 2 (by simp; omega)
 rw [hsz2] at o2
 have e2:((w1.setCell ⟨w.heap.size,3,none⟩ (.slice (some ⟨g1,0,none⟩) es.length c1)).alloc (.cells #[] 136)).ownsRow (w.heap.size+2) 134 3 (.slice (some ⟨g1,0,none⟩) es.length c1) es.length (es.flatMap flY.c):=(own_set hown1 w.heap.size 3 (.slice (some ⟨g1,0,none⟩) es.length c1) (by omega)).alloc _
 have hS3:((w1.setCell ⟨w.heap.size,3,none⟩ (.slice (some ⟨g1,0,none⟩) es.length c1)).alloc (.cells #[] 136)).heap.size=w1.heap.size+1:=by simp
 obtain ⟨W2,hW2⟩:∃ W2,(w1.setCell ⟨w.heap.size,3,none⟩ (.slice (some ⟨g1,0,none⟩) es.length c1)).alloc (.cells #[] 136)=W2:=⟨_,rfl⟩
 rw [hW2] at a2 r2 hb2 o2 e2 hS3
 have HEW:Hid (RE W2 h ms):=HEw.out.below hb2
 have x4:W2.cell? ⟨w.heap.size,4,none⟩=some (.slice (some ⟨h,0,none⟩) ms.length ch):=bcell a2 rfl
 have HA2:Hid (W2.heap[w.heap.size]?=some (.cells #[.string sn,.int .i64 lo,.int .i64 nx,.slice (some ⟨g1,0,none⟩) es.length c1,.slice (some ⟨h,0,none⟩) ms.length ch] 54 (0,0))):=a2
 have HR2:Hid (W2.heap[w.heap.size+1]?=some (.cells #[.string ⟨#[]⟩,.int .i64 0,.int .i64 0,.slice none 0 0,.slice none 0 0] 54 (0,0))):=r2
 have HO2:Hid (W2.ownsRow (w.heap.size+2) 136 2 (.slice (some ⟨w1.heap.size,0,none⟩) 0 0) 0 []):=o2
 have HE2:Hid (W2.ownsRow (w.heap.size+2) 134 3 (.slice (some ⟨g1,0,none⟩) es.length c1) es.length (es.flatMap flY.c)):=e2
 clear a1 r1 a2 r2 o2 e2 hown1 hgrow1 hnil1 hgr1 hW x3 x3f HYW HA HR HO HEw
 go_wp2_with (at_builtin; refine wpList_append_own _ rfl _ _ 52 rfl (w.heap.size+2) 136 i1 (.agg #[.string ByteArray.empty,.int .i64 0]) 2 24 Tryz.underlying52 ki kz0 kz1 kz2 rfl (by decide) _ 0 [] rfl (by exact HO2.out) ⟨h,0,none⟩ ms.length ch (ms.flatMap flK.c) rfl (flat_len flK.c_len ms) (by exact newsK HEW.out) (oneK ms) (by unfold maxLen; omega) (by omega) (by omega) ?_)
 intro v2 w2 hown2 hgrow2 hnil2
 obtain ⟨h1,c2,rfl,hh1,hh1l⟩:=form hown2 (fun e=>by first | exact hnil2 e | (have:=hnil2.1 e; cases this.1))
 have hgr2:W2.grownBy w2 (some w1.heap.size):=hgrow2
 have a3:=grown_at hgr2 HA2.out (by simp; omega)
 have r3:=grown_at hgr2 HR2.out (by simp; omega)
 have hs2:=hgr2.size
 have e3:=HE2.out.kept hgr2 (.inr (by simp [Value.ownBlock]; omega))
 have hne:g1 ≠ h1:=apart e3 hown2
 obtain ⟨y0,y1,y2,y3,y4⟩:=fl.q5 a3
 have y4f:=bfree a3 4
 obtain ⟨z0,z1,z2,z3,z4⟩:=fl.q5 r3
 obtain ⟨z0f,z1f,z2f,z3f,z4f⟩:=fl.r5 r3
 have hb3:Below w.heap.size w w2:=hb2.grown hgr2 (by omega) (fun b hb=>by cases hb; omega)
 have HE3:Hid (w2.ownsRow (w.heap.size+2) 134 3 (.slice (some ⟨g1,0,none⟩) es.length c1) es.length (es.flatMap flY.c)):=e3
 have HM3:Hid (w2.ownsRow (w.heap.size+2) 136 2 (.slice (some ⟨h1,0,none⟩) ms.length c2) ms.length (ms.flatMap flK.c)):=hown2
 clear a3 r3 e3 hown2 hgrow2 hnil2 hgr2 hW2 x4 HA2 HR2 HO2 HE2 HEW
 go_wp2
 refine bodyPost_ret (v:=.agg #[.string sn,.int .i64 lo,.int .i64 nx,.slice (some ⟨g1,0,none⟩) es.length c1,.slice (some ⟨h1,0,none⟩) ms.length c2]) (by simp [results,Tryz.results43,go_sem,z0,z1,z2,z3,z4]) rfl ⟨g1,c1,h1,c2,rfl,?_,?_,hne,?_⟩
 ·exact own_low (own_sets HE3.out (by omega)) (by omega)
 ·exact own_low (own_sets HM3.out (by omega)) (by omega)
 ·exact sets_below hb3 (by omega)
end Go.Proofs.YtaoefccgdfcchaaGreat.scp
namespace Go.Proofs.YtaoefccgdfcchaaGreat.stc
theorem step_call {σ:Type} {P:Program} {fin:σ->Act} {C:σ->(Nat->Bool)->World->Prop} {Q:Exit->Act->World->Prop} {i:Nat} {o:Oper} (hsel:∀ cs b,o.op ≠ .select cs b) (f:FuncId) (args:Array Value)
  (h:∀ (s:σ) (L:Nat->Bool) (w:World),(∀ e ∈ o.after,Region.binds .any e=true->L e.on=true)->L i=false->C s L w ->
   (execOp (fin s).eval o).run P w=.ok (.enter f args) w/\Calls P f args w fun e w'=>∃ s' v,e=.returned v/\gh.Agree o (fin s) (fin s')/\(∀ d,o.dst=some d->(fin s').tmps[d]?=some v)/\C s' (dn.more L i) w'):gh.Step P fin C Q i o:=by
 intro s L w a ha hd h0 hC K hK
 obtain ⟨hr,hc⟩:=h s L w hd h0 hC
 unfold Oper.wp
 rw [execOp_congr o hsel ha,hr]
 simp only [Oper.upon]
 exact hc.mono fun e w'' ⟨s',v,he,hag,hv,hD⟩=>by subst he; exact hK s' _ _ hag hv hD
end Go.Proofs.YtaoefccgdfcchaaGreat.stc
namespace Go.Proofs.YtaoefccgdfcchaaGreat.chn
open dn
def Cn {σ:Type} (l:List Oper) (js:List Nat) (S:σ->Nat->World->Prop) (s:σ) (L:Nat->Bool) (w:World):Prop :=
 (∀ (i:Nat) (o:Oper),l[i]?=some o->L i=true->∀ e ∈ o.after,Region.binds .any e=true->L e.on=true) /\
 ∃ k,k <= js.length/\(∀ (m j:Nat),js[m]?=some j->L j=decide (m < k))/\S s k w
theorem on (L:Nat->Bool) (i:Nat):more L i i=true:=by unfold more; rw [if_pos rfl]
theorem off (L:Nat->Bool) {i j:Nat} (h:j ≠ i):more L i j=L j:=by unfold more; rw [if_neg h]
theorem up {L:Nat->Bool} {i j:Nat} (h:L j=true):more L i j=true:=by
 unfold more
 split
 ·rfl
 ·exact h
theorem shut {l:List Oper} {L:Nat->Bool} {i:Nat} {o:Oper} (hl:l[i]?=some o) (hd:∀ e ∈ o.after,Region.binds .any e=true->L e.on=true) (h:∀ (i:Nat) (o:Oper),l[i]?=some o->L i=true->∀ e ∈ o.after,Region.binds .any e=true->L e.on=true) :
  ∀ (i':Nat) (o':Oper),l[i']?=some o'->more L i i'=true->∀ e ∈ o'.after,Region.binds .any e=true->more L i e.on=true:=fun i' o' hl' hL e he hb=>by
 by_cases hi:i'=i
 ·subst hi
  rw [hl] at hl'
  cases hl'
  exact up (hd e he hb)
 ·rw [off L hi] at hL
  exact up (h i' o' hl' hL e he hb)
section
variable {σ:Type} {P:Program} {act:Act} {ws:σ->List (Nat × Value)} {l:List Oper} {js:List Nat} {S:σ->Nat->World->Prop} {Q:Exit->Act->World->Prop} {i:Nat} {o:Oper}
theorem quiet (m:Nat) (hl:l[i]?=some o) (hi:i ∉ js) (hm:m=js.length ∨ ∃ j oj,js[m]?=some j/\l[j]?=some oj/\∃ e ∈ oj.after,Region.binds .any e=true/\e.on=i) (hsel:∀ cs b,o.op ≠ .select cs b) (u:σ->Value)
  (hd:∀ s d,o.dst=some d->(dk.sets act (ws s)).tmps[d]?=some (u s)) (hrun:∀ s k W,k <= m->S s k W->(execOp (dk.sets act (ws s)).eval o).run P W=.ok (.value (u s)) W):gh.Step P (fun s=>dk.sets act (ws s)) (Cn l js S) Q i o:=by
 refine gh.step_val hsel fun s L W hdp h0 hC=>⟨s,u s,gh.Agree.refl _ _,hd s,?_⟩
 obtain ⟨hc,k,hk,hL,hS⟩:=hC
 have hkm:k <= m:=by
  rcases hm with rfl | ⟨j,oj,hj,hoj,e,he,hb,hon⟩
  ·exact hk
  ·rcases Nat.lt_or_ge m k with h | h
   ·have h1:L j=true:=by rw [hL m j hj]; simpa using h
    have:=hc j oj hoj h1 e he hb
    rw [hon,h0] at this
    cases this
   ·exact h
 rw [hrun s k W hkm hS]
 refine ⟨rfl,shut hl hdp hc,k,hk,fun m' j hj=>?_,hS⟩
 rw [off L (fun e=>hi (by rw [<- e]; exact List.mem_of_getElem? hj))]
 exact hL m' j hj
theorem at_m {L:Nat->Bool} {k m:Nat} (hk:∀ (m j:Nat),js[m]?=some j->L j=decide (m < k)) (hm:js[m]?=some i) (h0:L i=false) (hdep:m=0 ∨ ∃ e ∈ o.after,Region.binds .any e=true/\js[m - 1]?=some e.on) (hd:∀ e ∈ o.after,Region.binds .any e=true->L e.on=true):k=m:=by
 have h1:=hk m i hm
 rw [h0] at h1
 have h2:¬ m < k:=fun h=>by simp [h] at h1
 rcases hdep with rfl | ⟨e,he,hb,hj⟩
 ·omega
 ·have h3:=hk (m - 1) e.on hj
  rw [hd e he hb] at h3
  have h4:m - 1 < k:=by simpa using h3.symm
  omega
theorem next_m {L:Nat->Bool} {m:Nat} (hnd:js.Nodup) (hm:js[m]?=some i) (hk:∀ (m' j:Nat),js[m']?=some j->L j=decide (m' < m)):∀ (m' j:Nat),js[m']?=some j->more L i j=decide (m' < m+1):=fun m' j hj=>by
 by_cases hji:j=i
 ·subst hji
  have h1:=(List.getElem?_eq_some_iff.1 hj)
  have h2:=(List.getElem?_eq_some_iff.1 hm)
  obtain ⟨a1,b1⟩:=h1
  obtain ⟨a2,b2⟩:=h2
  have:m'=m:=by
   rcases Nat.lt_trichotomy m' m with h | h | h
   ·exact absurd (b1.trans b2.symm) (List.pairwise_iff_getElem.1 hnd m' m a1 a2 h)
   ·exact h
   ·exact absurd (b2.trans b1.symm) (List.pairwise_iff_getElem.1 hnd m m' a2 a1 h)
  subst this
  rw [on]
  simp
 ·rw [off L hji,hk m' j hj]
  have:m' ≠ m:=fun e=>by subst e; rw [hm] at hj; cases hj; exact hji rfl
  by_cases h:m' < m
  ·simp [h,Nat.lt_succ_of_lt h]
  ·simp [h,show ¬ m' < m+1 by omega]
theorem eff (m:Nat) (hl:l[i]?=some o) (hnd:js.Nodup) (hm:js[m]?=some i) (hdep:m=0 ∨ ∃ e ∈ o.after,Region.binds .any e=true/\js[m - 1]?=some e.on) (hsel:∀ cs b,o.op ≠ .select cs b)
  (h:∀ s W,S s m W->∃ s' v,gh.Agree o (dk.sets act (ws s)) (dk.sets act (ws s'))/\(∀ d,o.dst=some d->(dk.sets act (ws s')).tmps[d]?=some v)/\left P v (S s' (m+1)) ((execOp (dk.sets act (ws s)).eval o).run P W)):gh.Step P (fun s=>dk.sets act (ws s)) (Cn l js S) Q i o:=by
 refine gh.step_val hsel fun s L W hdp h0 hC=>?_
 obtain ⟨hc,k,hk,hL,hS⟩:=hC
 obtain rfl:=at_m hL hm h0 hdep hdp
 obtain ⟨s',v,h1,h2,h3⟩:=h s W hS
 refine ⟨s',v,h1,h2,?_⟩
 have hlt:=(List.getElem?_eq_some_iff.1 hm).1
 have hnew:∀ W',S s' (k+1) W'->Cn l js S s' (more L i) W':=fun W' hS'=>⟨shut hl hdp hc,k+1,hlt,next_m hnd hm hL,hS'⟩
 generalize (execOp (dk.sets act (ws s)).eval o).run P W=r at *
 cases r with
 | ok n w' =>
  cases n <;> simp only [left] at h3 ⊢
  case value u=>exact ⟨h3.1,hnew _ h3.2⟩
  case skip=>exact ⟨h3.1,hnew _ h3.2⟩
  case enter f args=>exact h3.mono fun e w'' ⟨he,hD⟩=>⟨he,hnew _ hD⟩
 | halt x w'=>simp only [left] at h3
theorem call (m:Nat) (hl:l[i]?=some o) (hnd:js.Nodup) (hm:js[m]?=some i) (hdep:m=0 ∨ ∃ e ∈ o.after,Region.binds .any e=true/\js[m - 1]?=some e.on) (hsel:∀ cs b,o.op ≠ .select cs b) (f:FuncId) (args:Array Value)
  (h:∀ s W,S s m W->(execOp (dk.sets act (ws s)).eval o).run P W=.ok (.enter f args) W/\Calls P f args W fun e w'=>∃ s' v,e=.returned v/\gh.Agree o (dk.sets act (ws s)) (dk.sets act (ws s'))/\(∀ d,o.dst=some d->(dk.sets act (ws s')).tmps[d]?=some v)/\S s' (m+1) w'):gh.Step P (fun s=>dk.sets act (ws s)) (Cn l js S) Q i o:=by
 refine stc.step_call hsel f args fun s L W hdp h0 hC=>?_
 obtain ⟨hc,k,hk,hL,hS⟩:=hC
 obtain rfl:=at_m hL hm h0 hdep hdp
 obtain ⟨h1,h2⟩:=h s W hS
 have hlt:=(List.getElem?_eq_some_iff.1 hm).1
 exact ⟨h1,h2.mono fun e w' ⟨s',v,he,ha,hv,hS'⟩=>⟨s',v,he,ha,hv,shut hl hdp hc,k+1,hlt,next_m hnd hm hL,hS'⟩⟩
theorem val {v:Value} {D:World->Prop} {r:Result Next} {w':World} (h:r=.ok (.value v) w') (hD:D w'):left P v D r:=by rw [h]; exact ⟨rfl,hD⟩
theorem skip {D:World->Prop} {r:Result Next} {w':World} (h:r=.ok .skip w') (hD:D w'):left P undef D r:=by rw [h]; exact ⟨rfl,hD⟩
theorem sto (m:Nat) (hl:l[i]?=some o) (hnd:js.Nodup) (hm:js[m]?=some i) (hdep:m=0 ∨ ∃ e ∈ o.after,Region.binds .any e=true/\js[m - 1]?=some e.on) (hsel:∀ cs b,o.op ≠ .select cs b) (hdst:o.dst=none)
  (h:∀ s W,S s m W->∃ w',(execOp (dk.sets act (ws s)).eval o).run P W=.ok .skip w'/\S s (m+1) w'):gh.Step P (fun s=>dk.sets act (ws s)) (Cn l js S) Q i o:=by
 refine eff m hl hnd hm hdep hsel fun s W hS=>?_
 obtain ⟨w',h1,h2⟩:=h s W hS
 exact ⟨s,undef,gh.Agree.refl _ _,fun d hd=>(by rw [hdst] at hd; cases hd),skip h1 h2⟩
theorem region {id:Nat} {w:World} (ks:List Nat) (s0:σ) (hm:P.follows .mixedOrders=true) (hok:okB l.toArray=true) (hw:∀ g,(ws g).map (·.1)=ks) (hks:(ks.all fun t=>keepB l t)=true) (hjs:∀ j ∈ js,j < l.length) (hS:S s0 0 w.drew)
  (hstep:gh.Each P (fun g=>dk.sets act (ws g)) (Cn l js S) Q 0 l) (hend:∀ s w',S s js.length w'->Q .normal (dk.sets act (ws s)) w'):(Code.region id l.toArray true).wp P Q act w:=by
 refine dk.region_gsets ws ks (Cn l js S) s0 hm hok hw hks ⟨fun i o _ h=>(by cases h),0,Nat.zero_le _,fun m j _=>by simp,hS⟩ hstep fun s L w' hL hC=>?_
 obtain ⟨_,k,hk,hLk,hS'⟩:=hC
 have:k=js.length:=by
  rcases Nat.lt_or_ge k js.length with h | h
  ·have h1:=hLk k js[k] (List.getElem?_eq_getElem h)
   rw [hL _ (hjs _ (List.getElem_mem h))] at h1
   simp at h1
  ·omega
 subst this
 exact hend s w' hS'
end
end Go.Proofs.YtaoefccgdfcchaaGreat.chn
namespace Go.Proofs.YtaoefccgdfcchaaGreat.qu
open ChangeShapes WideShapes ChangeAt RowKit fl
theorem infoA:∃ i0,Tryz.prog.info? 58=some i0/\i0.zero=some (.agg #[.string ByteArray.empty,.int .i64 0,.slice none 0 0,.slice none 0 0])/\i0.size=4/\i0.bytes=72:=by
 have h:=info
 cases hh:Tryz.prog.info? 58 with
 | none=>rw [hh] at h; cases h
 | some i=>rw [hh] at h; simp at h; exact ⟨i,rfl,h.1,h.2.1,h.2.2⟩
def All (W:World) (B:Nat) (v:Value) (l:List E):Prop:=(l=[]/\∃ ao,v=.slice ao 0 0) ∨ ∃ g cap,v=.slice (some ⟨g,0,none⟩) l.length cap/\W.ownsRow B 58 4 (.slice (some ⟨g,0,none⟩) l.length cap) l.length (l.flatMap c)
theorem All.form {W:World} {B:Nat} {v:Value} {l:List E} (h:All W B v l):∃ ao cap,v=.slice ao l.length cap:=by
 rcases h with ⟨rfl,ao,rfl⟩ | ⟨g,cap,rfl,_⟩
 ·exact ⟨ao,0,rfl⟩
 ·exact ⟨_,cap,rfl⟩
theorem All.row {W:World} {B:Nat} {ao:Option Addr} {cap:Nat} {l:List E} (h:All W B (.slice ao l.length cap) l):Row c 4 W W.heap.size ao l:=by
 rcases h with ⟨rfl,_⟩ | ⟨g,cap',e,ho⟩
 ·exact .inl rfl
 ·cases e
  obtain ⟨a',c',e',hr⟩:=own_row c_len ho
  cases e'
  exact hr
theorem All.on {W W':World} {B:Nat} {v:Value} {l:List E} (h:All W B v l) (hb:Below W.heap.size W W'):All W' B v l:=by
 rcases h with h | ⟨g,cap,rfl,ho⟩
 ·exact .inl h
 ·exact .inr ⟨g,cap,rfl,ho.kept (row:=none) ⟨hb.os,hb.tape,hb.output,hb.size,fun k hk _=>hb.block k hk⟩ (by simp [Value.ownBlock])⟩
theorem add0 (g j:Nat):(⟨g,0,none⟩:Addr).add j=⟨g,j,none⟩:=by unfold Addr.add; split <;> simp_all
theorem All.keep {W w':World} {B:Nat} {v:Value} {l:List E} (h:All W B v l) (hk:∀ g,v.ownBlock=some g->w'.heap[g]?=W.heap[g]?):All w' B v l:=by
 rcases h with h | ⟨g,cap,rfl,ho⟩
 ·exact .inl h
 ·refine .inr ⟨g,cap,rfl,?_⟩
  obtain ⟨h1,h2 | ⟨g',cap',cur,h3,h4,h5,h6⟩⟩:=ho
  ·exact ⟨h1,.inl h2⟩
  ·exact ⟨h1,.inr ⟨g',cap',cur,h3,h4,(hk g' (by rw [h3]; rfl)).trans h5,h6⟩⟩
end Go.Proofs.YtaoefccgdfcchaaGreat.qu
namespace Go.Proofs.YtaoefccgdfcchaaGreat.su
open ChangeShapes WideShapes ChangeAt RowKit fl
theorem infoA:∃ i0,Tryz.prog.info? 54=some i0/\i0.zero=some (.agg #[.string ByteArray.empty,.int .i64 0,.int .i64 0,.slice none 0 0,.slice none 0 0])/\i0.size=5/\i0.bytes=80:=by
 have h:=info
 cases hh:Tryz.prog.info? 54 with
 | none=>rw [hh] at h; cases h
 | some i=>rw [hh] at h; simp at h; exact ⟨i,rfl,h.1,h.2.1,h.2.2⟩
def All (W:World) (B:Nat) (v:Value) (l:List E):Prop:=(l=[]/\∃ ao,v=.slice ao 0 0) ∨ ∃ g cap,v=.slice (some ⟨g,0,none⟩) l.length cap/\W.ownsRow B 54 5 (.slice (some ⟨g,0,none⟩) l.length cap) l.length (l.flatMap c)
theorem All.form {W:World} {B:Nat} {v:Value} {l:List E} (h:All W B v l):∃ ao cap,v=.slice ao l.length cap:=by
 rcases h with ⟨rfl,ao,rfl⟩ | ⟨g,cap,rfl,_⟩
 ·exact ⟨ao,0,rfl⟩
 ·exact ⟨_,cap,rfl⟩
theorem All.row {W:World} {B:Nat} {ao:Option Addr} {cap:Nat} {l:List E} (h:All W B (.slice ao l.length cap) l):Row c 5 W W.heap.size ao l:=by
 rcases h with ⟨rfl,_⟩ | ⟨g,cap',e,ho⟩
 ·exact .inl rfl
 ·cases e
  obtain ⟨a',c',e',hr⟩:=own_row c_len ho
  cases e'
  exact hr
theorem All.on {W W':World} {B:Nat} {v:Value} {l:List E} (h:All W B v l) (hb:Below W.heap.size W W'):All W' B v l:=by
 rcases h with h | ⟨g,cap,rfl,ho⟩
 ·exact .inl h
 ·exact .inr ⟨g,cap,rfl,ho.kept (row:=none) ⟨hb.os,hb.tape,hb.output,hb.size,fun k hk _=>hb.block k hk⟩ (by simp [Value.ownBlock])⟩
theorem add0 (g j:Nat):(⟨g,0,none⟩:Addr).add j=⟨g,j,none⟩:=by unfold Addr.add; split <;> simp_all
theorem All.keep {W w':World} {B:Nat} {v:Value} {l:List E} (h:All W B v l) (hk:∀ g,v.ownBlock=some g->w'.heap[g]?=W.heap[g]?):All w' B v l:=by
 rcases h with h | ⟨g,cap,rfl,ho⟩
 ·exact .inl h
 ·refine .inr ⟨g,cap,rfl,?_⟩
  obtain ⟨h1,h2 | ⟨g',cap',cur,h3,h4,h5,h6⟩⟩:=ho
  ·exact ⟨h1,.inl h2⟩
  ·exact ⟨h1,.inr ⟨g',cap',cur,h3,h4,(hk g' (by rw [h3]; rfl)).trans h5,h6⟩⟩
end Go.Proofs.YtaoefccgdfcchaaGreat.su
