/- QueueAll, SortLaid, QueueSort, AppendZeros, CopyRows. -/
import Derived.Test.YteoojodkkjepeaaGreatKp25
import Derived.Test.YteoojodkkjepeaaGreatKp22
import Derived.ArgAppend
import Derived.Lib.SliceRun
import Derived.Shelf.SlGeneric
import Derived.Shelf.SlSortCmp.WholeK
import Derived.Shelf.SlSortCmp.NoneTotal
import Derived.Laws.Append
import Derived.Test.YteoojodkkjepeaaGreatKp11
import Derived.Laws.CopyRow
set_option maxRecDepth 100000
set_option maxHeartbeats 8000000
set_option linter.unusedVariables false
namespace Go.Proofs.YteoojodkkjepeaaGreat.qa
open ChangeShapes WideShapes ChangeAt RowKit fl qk
theorem infoM:∃ i0,Tryz.prog.info? 48=some i0/\i0.zero=some (.agg #[.int .i64 0,.string ByteArray.empty,.string ByteArray.empty,.string ByteArray.empty,.bool false])/\i0.size=5/\i0.bytes=64:=by
 have h:=flM.info
 cases hh:Tryz.prog.info? 48 with
 | none=>rw [hh] at h;cases h
 | some i=>rw [hh] at h;simp at h;exact⟨i,rfl,h.1,h.2.1,h.2.2⟩
def All (W:World)(B:Nat)(v:Value)(l:List flM.Ms):Prop:=(l=[]/\∃ ao,v=.slice ao 0 0) ∨ ∃ g cap,v=.slice (some ⟨g,0,none⟩) l.length cap/\W.ownsRow B 48 5 (.slice (some ⟨g,0,none⟩) l.length cap) l.length (l.flatMap flM.c)
theorem All.form {W:World}{B:Nat}{v:Value}{l:List flM.Ms}(h:All W B v l):∃ ao cap,v=.slice ao l.length cap:=by
 rcases h with⟨rfl,ao,rfl⟩ | ⟨g,cap,rfl,_⟩
 ·exact⟨ao,0,rfl⟩
 ·exact⟨_,cap,rfl⟩
theorem All.row {W:World}{B:Nat}{ao:Option Addr}{cap:Nat}{l:List flM.Ms}(h:All W B (.slice ao l.length cap) l):Row flM.c 5 W W.heap.size ao l:=by
 rcases h with⟨rfl,_⟩ | ⟨g,cap',e,ho⟩
 ·exact .inl rfl
 ·cases e
  obtain⟨a',c',e',hr⟩:=own_row flM.c_len ho
  cases e'
  exact hr
theorem All.on {W W':World}{B:Nat}{v:Value}{l:List flM.Ms}(h:All W B v l)(hb:Below W.heap.size W W'):All W' B v l:=by
 rcases h with h | ⟨g,cap,rfl,ho⟩
 ·exact .inl h
 ·exact .inr ⟨g,cap,rfl,ho.kept (row:=none) ⟨hb.os,hb.tape,hb.output,hb.size,fun k hk _=>hb.block k hk⟩ (by simp [Value.ownBlock])⟩
theorem add0 (g j:Nat):(⟨g,0,none⟩:Addr).add j=⟨g,j,none⟩:=by unfold Addr.add;split <;> simp_all
theorem own_all {W:World}{B:Nat}{v:Value}{l:List flM.Ms}(hl:l≠[])(h:W.ownsRow B 48 5 v l.length (l.flatMap flM.c)):All W B v l:=by
 have hs:=h
 obtain⟨_,⟨_,h0⟩ | ⟨g,cap,cur,rfl,_⟩⟩:=hs
 ·exact absurd (List.eq_nil_of_length_eq_zero h0) hl
 ·exact .inr ⟨g,cap,rfl,h⟩
theorem below_grown {W w':World}{B:Nat}{r:Option Nat}(h:W.grownBy w' r)(hB:B <= W.heap.size)(hr:∀ b,r=some b->B <= b):Below B W w':=⟨h.os,h.tape,h.output,h.size,fun k hk=>h.block k (by omega) (fun e=>by have:=hr k e.symm;omega)⟩
theorem app_one {W:World}{B a:Nat}{v:Value}{l:List flM.Ms}(m:flM.Ms)(h:All W B v l)(hB:B <= W.heap.size)(hl:l.length <= 1048576)(hc:W.heap[a]?=some (.cells (flM.c m).toArray 48 (0,0)))(ty:TypeId) :
  ∃ v' w',(Builtin.append_ #[65,65] ty #[v,.slice (some ⟨a,0,none⟩) 1 1]).run Tryz.prog W=.ok v' w'/\All w' B v' (l++[m])/\Below B W w':=by
 obtain⟨i0,hi,hz0,hz1,hz2⟩:=infoM
 have hnews:∀ j u,(flM.c m)[j]?=some u->W.cell? ((⟨a,0,none⟩:Addr).add j)=some u:=fun j u hu=>by
  rw [add0]
  exact bcell hc (by simpa using hu)
 have h1:∀ u∈flM.c m,u.oneCell'=true:=fun u hu=>by simp [flM.c] at hu;rcases hu with rfl | rfl | rfl | rfl | rfl <;> rfl
 have hfl:(l++[m]).flatMap flM.c=l.flatMap flM.c++flM.c m:=by rw [List.flatMap_append];simp
 have hln:(l++[m]).length=l.length+1:=by simp
 rcases h with⟨rfl,ao,rfl⟩ | ⟨g,cap,rfl,ho⟩
 ·cases ao with
  | none =>
   obtain⟨v',w',hr,ho,hg,_⟩:=run_append_own_at (P:=Tryz.prog) W B 65 ty 48 i0 (.agg #[.int .i64 0,.string ByteArray.empty,.string ByteArray.empty,.string ByteArray.empty,.bool false]) 5 64 Tryz.underlying65 hi hz0 hz1 hz2 rfl (by decide) (.slice none 0 0) 0 [] (World.ownsRow_nil W _ _ _) ⟨a,0,none⟩ 1 1 (flM.c m) rfl hnews h1 (by unfold maxLen;omega) (by omega) hB
   exact⟨v',w',hr,own_all (by simp) (by rw [hfl,hln];simpa using ho),below_grown hg hB (fun b e=>by simp [Value.ownBlock] at e)⟩
  | some b =>
   obtain⟨v',w',hr,ho,hg⟩:=run_append_arg_grows (P:=Tryz.prog) W 65 ty 48 i0 (.agg #[.int .i64 0,.string ByteArray.empty,.string ByteArray.empty,.string ByteArray.empty,.bool false]) 5 64 Tryz.underlying65 hi hz0 hz1 hz2 rfl (by decide) b 0 0 [] rfl (fun j u hu=>by simp at hu) ⟨a,0,none⟩ 1 1 (flM.c m) rfl hnews (by omega) (by unfold maxLen;omega) (by omega)
   refine⟨v',w',hr,own_all (by simp) ?_,below_grown hg hB (fun b e=>by cases e)⟩
   rw [hfl,hln]
   obtain⟨k1,k2 | ⟨g,cap,cur,k3,k4,k5⟩⟩:=ho
   ·simp at k2
   ·exact⟨by simpa using k1,.inr ⟨g,cap,cur,by simpa using k3,by omega,by simpa using k5⟩⟩
 ·obtain⟨v',w',hr,ho',hg,_⟩:=run_append_own_at (P:=Tryz.prog) W B 65 ty 48 i0 (.agg #[.int .i64 0,.string ByteArray.empty,.string ByteArray.empty,.string ByteArray.empty,.bool false]) 5 64 Tryz.underlying65 hi hz0 hz1 hz2 rfl (by decide) _ l.length _ ho ⟨a,0,none⟩ 1 1 (flM.c m) rfl hnews h1 (by unfold maxLen;omega) (by omega) hB
  exact⟨v',w',hr,own_all (by simp) (by rw [hfl,hln];exact ho'),below_grown hg hB (fun b e=>by have:=Option.some.inj e;subst this;exact(ho.lt g rfl).1)⟩
theorem clone_msgs (l:List flM.Ms)(a:Option Addr)(c:Nat)(w:World)(hl:l.length <= 1048576)(hS:Row flM.c 5 w w.heap.size a l) :
  Calls Tryz.prog 104 #[.slice a l.length c] w fun e w'=>(∃ v,e=.returned v/\All w' w.heap.size v l)/\Below w.heap.size w w':=by
 obtain⟨i0,hi,hz0,hz1,hz2⟩:=infoM
 cases a with
 | none =>
  obtain rfl:l=[]:=by
   rcases hS with h | ⟨b,off,e,_⟩
   ·exact h
   ·cases e
  have hq:=fun W=>Go.Lib.run_eql_slice_nil (P:=Tryz.prog) W 65 _ none 0 c 0 0 Tryz.underlying65
  simp only [Option.isNone] at hq
  go_enter Tryz.func104,Tryz.ntmps104
  go_wp2
  go_ret
  exact⟨⟨_,rfl,.inl ⟨rfl,none,rfl⟩⟩,Below.refl _ _⟩
 | some ad =>
  have hnews:∀ j u,(l.flatMap flM.c)[j]?=some u->w.cell? (ad.add j)=some u:=fun j u hu=>by
   rcases hS with h | ⟨b,off,e,hlt,hc⟩
   ·subst h;simp at hu
   ·cases e
    obtain⟨i,e,r,h1,h2,rfl⟩:=flat_get flM.c_len l j u hu
    have:=hc i e h1 r u h2
    rw [show (⟨b,off,none⟩:Addr).add (i*5+r)=⟨b,off+(i*5+r),none⟩ by unfold Addr.add;split <;> simp_all]
    rw [<- Nat.add_assoc]
    exact this
  have hone:∀ u∈l.flatMap flM.c,u.oneCell'=true:=fun u hu=>by
   obtain⟨e,_,he⟩:=List.mem_flatMap.1 hu
   simp [flM.c] at he
   rcases he with rfl | rfl | rfl | rfl | rfl <;> rfl
  have hb0:=fl.bl w (.cells #[] 48)
  have hlt:∀ j u,(l.flatMap flM.c)[j]?=some u->(w.alloc (.cells #[] 48)).cell? (ad.add j)=some u:=fun j u hu=>by
   have h:=hnews j u hu
   rcases hS with h0 | ⟨b,off,e,hlt,_⟩
   ·subst h0;simp at hu
   ·cases e
    rw [show (⟨b,off,none⟩:Addr).add j=⟨b,off+j,none⟩ by unfold Addr.add;split <;> simp_all] at h ⊢
    exact(hb0.cell (p:=⟨b,off+j,none⟩) hlt).trans h
  have ho0:(w.alloc (.cells #[] 48)).ownsRow w.heap.size 48 5 (.slice (some ⟨w.heap.size,0,none⟩) 0 0) 0 []:=World.ownsRow_made w #[] 0 (Nat.le_refl _) (by unfold maxLen;omega) (by simp)
  have HO0:Hid ((w.alloc (.cells #[] 48)).ownsRow w.heap.size 48 5 (.slice (some ⟨w.heap.size,0,none⟩) 0 0) 0 []):=ho0
  have HN:Hid (∀ j u,(l.flatMap flM.c)[j]?=some u->(w.alloc (.cells #[] 48)).cell? (ad.add j)=some u):=hlt
  clear hnews hS ho0 hlt
  have hq:=fun W=>Go.Lib.run_eql_slice_nil (P:=Tryz.prog) W 65 _ (some ad) l.length c 0 0 Tryz.underlying65
  simp only [Option.isNone] at hq
  go_enter Tryz.func104,Tryz.ntmps104
  go_wp2_with (at_builtin;refine wpList_append_own _ rfl _ _ 65 rfl w.heap.size 48 i0 (.agg #[.int .i64 0,.string ByteArray.empty,.string ByteArray.empty,.string ByteArray.empty,.bool false]) 5 64 Tryz.underlying65 hi hz0 hz1 hz2 rfl (by decide) _ 0 [] rfl (by exact HO0.out) ad l.length c (l.flatMap flM.c) rfl (flat_len flM.c_len l) (by exact HN.out) hone (by unfold maxLen;omega) (by omega) (by simp) ?_)
  intro v1 w1 hown1 hgrow1 hnil1
  obtain⟨g1,c1,rfl⟩:∃ g1 c1,v1=.slice (some ⟨g1,0,none⟩) l.length c1:=by
   obtain⟨_,⟨rfl,h0⟩ | ⟨g,cap,cur,e,_⟩⟩:=hown1
   ·exfalso
    first | exact hnil1 rfl | (have:=hnil1.1 rfl;cases this.1)
   ·exact⟨_,_,by simpa using e⟩
  have HW:Hid (w1.ownsRow w.heap.size 48 5 (.slice (some ⟨g1,0,none⟩) l.length c1) l.length (l.flatMap flM.c)):=by show w1.ownsRow _ _ _ _ _ _;simpa using hown1
  have hb1:Below w.heap.size w w1:=hb0.grown hgrow1 (by simp) (fun b hb=>by simp [Value.ownBlock] at hb;omega)
  clear hown1 hgrow1 hnil1
  go_wp2
  go_ret
  exact⟨⟨_,rfl,.inr ⟨g1,c1,rfl,HW.out⟩⟩,hb1⟩
theorem impl_hand (o t:Int)(w:World):Calls Tryz.prog 105 #[.int .i64 o,.int .i64 t] w fun e w'=>e=.returned (.bool (decide (0 <= o/\o <= 1000) && decide (1 <= t/\t <= 1000000000)))/\w'=w:=by
 by_cases h1:0 <= o <;> by_cases h2:o <= 1000 <;> by_cases h3:1 <= t <;> by_cases h4:t <= 1000000000
 all_goals
  go_enter Tryz.func105,Tryz.ntmps105
  go_wp2
  go_ret
  exact⟨by simp [h1,h2,h3,h4],rfl⟩
theorem impl_msg (m:flM.Ms)(nx:Int)(w:World)(hm:m.x.size <= 1048576/\m.k.size <= 1048576/\m.b.size <= 1048576) :
  Calls Tryz.prog 106 #[.agg #[.int .i64 m.q,.string m.x,.string m.k,.string m.b,.bool m.a],.int .i64 nx] w fun e w'=>e=.returned (.bool (mOk m nx))/\Below w.heap.size w w':=by
 obtain⟨q,x,k,b,a⟩:=m
 obtain⟨h1,h2,h3⟩:=hm
 simp only at h1 h2 h3 ⊢
 have hnm:=fun W=>nm.impl_name x W h1
 have hky:=fun W=>ky.impl_key k W h2
 unfold mOk
 simp only
 have hb:=fl.bl w (.cells #[.int .i64 q,.string x,.string k,.string b,.bool a] 48)
 generalize nm.good x=b2 at hnm ⊢
 generalize ky.good k=b3 at hky ⊢
 by_cases q1:1 <= q
 case neg =>
  have e1:decide (1 <= q/\q <= nx - 1)=false:=decide_eq_false (fun h=>q1 h.1)
  rw [e1]
  go_enter Tryz.func106,Tryz.ntmps106
  go_wp2_with (first | (go_at_call 97;refine(hnm _).mono ?_;rintro e w2 ⟨rfl,hw2⟩;obtain rfl:=hw2.symm) | (go_at_call 96;refine(hky _).mono ?_;rintro e w3 ⟨rfl,hw3⟩;obtain rfl:=hw3.symm))
  go_ret
  exact⟨by simp,hb⟩
 by_cases q2:q<nx
 case neg =>
  have e1:decide (1 <= q/\q <= nx - 1)=false:=decide_eq_false (fun h=>q2 (by omega))
  rw [e1]
  go_enter Tryz.func106,Tryz.ntmps106
  go_wp2_with (first | (go_at_call 97;refine(hnm _).mono ?_;rintro e w2 ⟨rfl,hw2⟩;obtain rfl:=hw2.symm) | (go_at_call 96;refine(hky _).mono ?_;rintro e w3 ⟨rfl,hw3⟩;obtain rfl:=hw3.symm))
  go_ret
  exact⟨by simp,hb⟩
 have e1:decide (1 <= q/\q <= nx - 1)=true:=decide_eq_true ⟨q1,by omega⟩
 rw [e1]
 by_cases hx:x=⟨#[]⟩
 ·subst hx
  by_cases h30:b.size <= 3000
  ·have g1:(b.size:Int) <= 3000:=by omega
   cases b3
   all_goals
    go_enter Tryz.func106,Tryz.ntmps106
    go_wp2_with (first | (go_at_call 97;refine(hnm _).mono ?_;rintro e w2 ⟨rfl,hw2⟩;obtain rfl:=hw2.symm) | (go_at_call 96;refine(hky _).mono ?_;rintro e w3 ⟨rfl,hw3⟩;obtain rfl:=hw3.symm))
    go_ret
    exact⟨by first | (simp [h30];done) | (simp [h30,g1];done) | (simp [h30];omega),hb⟩
  ·have g1:¬ (b.size:Int) <= 3000:=by omega
   cases b3
   all_goals
    go_enter Tryz.func106,Tryz.ntmps106
    go_wp2_with (first | (go_at_call 97;refine(hnm _).mono ?_;rintro e w2 ⟨rfl,hw2⟩;obtain rfl:=hw2.symm) | (go_at_call 96;refine(hky _).mono ?_;rintro e w3 ⟨rfl,hw3⟩;obtain rfl:=hw3.symm))
    go_ret
    exact⟨by first | (simp [h30];done) | (simp [h30,g1];done) | (simp [h30];omega),hb⟩
 ·have hx2:(x.toList == [])=false:=by simp;exact ne_nil hx
  by_cases h30:b.size <= 3000
  ·have g1:(b.size:Int) <= 3000:=by omega
   cases b2 <;> cases b3
   all_goals
    go_enter Tryz.func106,Tryz.ntmps106
    go_wp2_with (first | (go_at_call 97;refine(hnm _).mono ?_;rintro e w2 ⟨rfl,hw2⟩;obtain rfl:=hw2.symm) | (go_at_call 96;refine(hky _).mono ?_;rintro e w3 ⟨rfl,hw3⟩;obtain rfl:=hw3.symm))
    go_ret
    exact⟨by first | (simp [h30,hx];done) | (simp [h30,hx];omega),hb⟩
  ·have g1:¬ (b.size:Int) <= 3000:=by omega
   cases b2 <;> cases b3
   all_goals
    go_enter Tryz.func106,Tryz.ntmps106
    go_wp2_with (first | (go_at_call 97;refine(hnm _).mono ?_;rintro e w2 ⟨rfl,hw2⟩;obtain rfl:=hw2.symm) | (go_at_call 96;refine(hky _).mono ?_;rintro e w3 ⟨rfl,hw3⟩;obtain rfl:=hw3.symm))
    go_ret
    exact⟨by first | (simp [h30,hx];done) | (simp [h30,hx];omega),hb⟩
end Go.Proofs.YteoojodkkjepeaaGreat.qa
namespace Go.Proofs.YteoojodkkjepeaaGreat.shs
open Go.Shelf
def sortM_ren:Go.Shelf.Ren:=⟨fun | 6=>107 | 15=>166 | 14=>165 | 28=>201 | 29=>202 | 20=>193 | 21=>194 | 22=>195 | 23=>196 | 24=>197 | 25=>198 | 26=>199 | 27=>200 | 46=>211 | 47=>212 | 48=>213 | 49=>214 | 50=>215 | 57=>218 | n=>n,fun | 22=>65 | 24=>48 | 25=>143 | 3=>3 | 39=>199 | 0=>0 | 53=>242 | 55=>244 | 4=>4 | 46=>236 | 45=>235 | 50=>83 | 5=>5 | 9=>9 | 66=>255 | 70=>259 | 76=>263 | 77=>264 | n=>n,fun | n=>n⟩
theorem sortM:Go.Proofs.SlLaysF0.n6 Tryz.prog sortM_ren:={
 mixed:=by kernel_rfl
 f6:=⟨Tryz.f107.name,by decide,Tryz.func107.trans (congrArg some (by kernel_rfl))⟩
 f14:=⟨Tryz.f165.name,by decide,Tryz.func165.trans (congrArg some (by kernel_rfl))⟩
 f15:=Tryz.func166.trans (congrArg some (by kernel_rfl))
 f20:=⟨Tryz.f193.name,by decide,Tryz.func193.trans (congrArg some (by kernel_rfl))⟩
 f21:=⟨Tryz.f194.name,by decide,Tryz.func194.trans (congrArg some (by kernel_rfl))⟩
 f22:=⟨Tryz.f195.name,by decide,Tryz.func195.trans (congrArg some (by kernel_rfl))⟩
 f23:=⟨Tryz.f196.name,by decide,Tryz.func196.trans (congrArg some (by kernel_rfl))⟩
 f24:=⟨Tryz.f197.name,by decide,Tryz.func197.trans (congrArg some (by kernel_rfl))⟩
 f25:=⟨Tryz.f198.name,by decide,Tryz.func198.trans (congrArg some (by kernel_rfl))⟩
 f26:=⟨Tryz.f199.name,by decide,Tryz.func199.trans (congrArg some (by kernel_rfl))⟩
 f27:=⟨Tryz.f200.name,by decide,Tryz.func200.trans (congrArg some (by kernel_rfl))⟩
 f28:=Tryz.func201.trans (congrArg some (by kernel_rfl))
 f29:=Tryz.func202.trans (congrArg some (by kernel_rfl))
 f46:=⟨Tryz.f211.name,by decide,Tryz.func211.trans (congrArg some (by kernel_rfl))⟩
 f47:=Tryz.func212.trans (congrArg some (by kernel_rfl))
 f48:=Tryz.func213.trans (congrArg some (by kernel_rfl))
 f49:=⟨Tryz.f214.name,by decide,Tryz.func214.trans (congrArg some (by kernel_rfl))⟩
 f50:=⟨Tryz.f215.name,by decide,Tryz.func215.trans (congrArg some (by kernel_rfl))⟩
 f57:=⟨Tryz.f218.name,by decide,Tryz.func218.trans (congrArg some (by kernel_rfl))⟩
 t0:=Tryz.underlying0
 a0:=Tryz.isAgg0
 z0:=Tryz.sizeOf0
 v0:=Tryz.zeroValue0
 t3:=Tryz.underlying3
 a3:=Tryz.isAgg3
 z3:=Tryz.sizeOf3
 v3:=Tryz.zeroValue3
 t4:=Tryz.underlying4
 a4:=Tryz.isAgg4
 z4:=Tryz.sizeOf4
 v4:=Tryz.zeroValue4
 t5:=Tryz.underlying5
 a5:=Tryz.isAgg5
 z5:=Tryz.sizeOf5
 v5:=Tryz.zeroValue5
 t9:=Tryz.underlying9
 a9:=Tryz.isAgg9
 z9:=Tryz.sizeOf9
 v9:=Tryz.zeroValue9
 t22:=Tryz.underlying65
 a22:=Tryz.isAgg65
 z22:=Tryz.sizeOf65
 v22:=Tryz.zeroValue65
 t25:=Tryz.underlying143
 a25:=Tryz.isAgg143
 z25:=Tryz.sizeOf143
 v25:=Tryz.zeroValue143
 t39:=Tryz.underlying199
 a39:=Tryz.isAgg199
 z39:=Tryz.sizeOf199
 v39:=Tryz.zeroValue199
 t45:=Tryz.underlying235
 a45:=Tryz.isAgg235
 z45:=Tryz.sizeOf235
 v45:=Tryz.zeroValue235
 t46:=Tryz.underlying236
 a46:=Tryz.isAgg236
 z46:=Tryz.sizeOf236
 v46:=Tryz.zeroValue236
 t50:=Tryz.underlying83
 a50:=Tryz.isAgg83
 z50:=Tryz.sizeOf83
 v50:=Tryz.zeroValue83
 t53:=Tryz.underlying242
 a53:=Tryz.isAgg242
 z53:=Tryz.sizeOf242
 v53:=Tryz.zeroValue242
 t55:=Tryz.underlying244
 a55:=Tryz.isAgg244
 z55:=Tryz.sizeOf244
 v55:=Tryz.zeroValue244
 t66:=Tryz.underlying255
 a66:=Tryz.isAgg255
 z66:=Tryz.sizeOf255
 v66:=Tryz.zeroValue255
 t70:=Tryz.underlying259
 a70:=Tryz.isAgg259
 z70:=Tryz.sizeOf259
 v70:=Tryz.zeroValue259
 t76:=Tryz.underlying263
 a76:=Tryz.isAgg263
 z76:=Tryz.sizeOf263
 v76:=Tryz.zeroValue263
 t77:=Tryz.underlying264
 a77:=Tryz.isAgg264
 z77:=Tryz.sizeOf264
 v77:=Tryz.zeroValue264 }
end Go.Proofs.YteoojodkkjepeaaGreat.shs
namespace Go.Proofs.YteoojodkkjepeaaGreat.qs
open Go.Shelf RowKit Go.Lib Go.Sort fl qk qc
instance :Inhabited flM.Ms:=⟨⟨0,⟨#[]⟩,⟨#[]⟩,⟨#[]⟩,false⟩⟩
theorem lt_msg (x y:flM.Ms):ltOf cmpM x y=decide (x.q<y.q):=by
 unfold ltOf cmpM
 by_cases h:x.q<y.q
 ·rw [decide_eq_true h,decide_eq_true (cmpI_neg.2 h)]
 ·rw [decide_eq_false h,decide_eq_false (fun e=>h (cmpI_neg.1 e))]
theorem swo:SWO (ltOf cmpM) where
 irrefl x:=by rw [lt_msg];simp
 trans x y z h1 h2:=by rw [lt_msg] at *;simp at *;omega
 ntrans x y z h1 h2:=by rw [lt_msg] at *;simp at *;omega
theorem closure (x y:flM.Ms)(W:World):Calls Tryz.prog 101 #[.agg #[.int .i64 x.q,.string x.x,.string x.k,.string x.b,.bool x.a],.agg #[.int .i64 y.q,.string y.x,.string y.k,.string y.b,.bool y.a]] W fun e w'=>e=.returned (.int .i64 (cmpM x y))/\∃ q os',w'=grow (W.drewN q) os':=by
 obtain⟨aq,ax,ak,ad,ag⟩:=x
 obtain⟨bq,bx,bk,bd,bg⟩:=y
 have hc:=fun W=>cmp_int aq bq W
 show Calls _ _ _ _ fun e w'=>e=.returned (.int .i64 (cmpI aq bq))/\_
 generalize cmpI aq bq=r at hc ⊢
 go_enter Tryz.func101,Tryz.ntmps101
 go_wp2_with (go_at_call 164;refine(hc _).mono ?_;rintro e w0 ⟨rfl,hw0⟩;rw [hw0];clear hw0 w0)
 go_ret
 exact⟨rfl,0,_,by rw [alloc_eq_grow,alloc_eq_grow,grow_grow];rfl⟩
theorem lays (blk off size:Nat)(w:World):CmpLays Tryz.prog 101 #[] flM.c 5 cmpM blk off size w:=fun _ _ _ _ x y=>closure x y _
theorem holds {w:World}{B g cap:Nat}{l:List flM.Ms}(ho:w.ownsRow B 48 5 (.slice (some ⟨g,0,none⟩) l.length cap) l.length (l.flatMap flM.c)):HoldsK flM.c 5 w g 0 l.toArray:=by
 obtain⟨_,⟨h1,_⟩ | ⟨g',cap',cur,h1,h2,h3,h4,h5,h6,h7⟩⟩:=ho
 ·cases h1
 cases h1
 intro j hj
 rw [size_flatK] at hj
 have hjl:j<l.length*5:=by simpa using hj
 have hi:j / 5<l.length:=by omega
 have hg:l[j / 5]?=some l[j / 5]:=List.getElem?_eq_getElem hi
 have hr:j % 5<(flM.c l[j / 5]).length:=by show j % 5<5;omega
 have hv:(flM.c l[j / 5])[j % 5]?=some (flM.c l[j / 5])[j % 5]:=List.getElem?_eq_getElem hr
 have hf:=flat_at flM.c_len l (j / 5) _ hg (j % 5) _ hv
 rw [show j / 5*5+j % 5=j by omega,<- h7,List.getElem?_take_of_lt hjl] at hf
 have e1:l.toArray[j / 5]! = l[j / 5]:=by simp [hi]
 refine⟨?_,by rw [Nat.zero_add];exact bfree h3 j⟩
 rw [Nat.zero_add,get_flatK _ _ _ _ hj,e1]
 have e2:(flM.c l[j / 5])[j % 5]! = (flM.c l[j / 5])[j % 5]:=getElem!_pos (flM.c l[j / 5]) (j % 5) hr
 rw [e2]
 exact bcell h3 (by simpa using hf)
theorem row_holds {w:World}{g:Nat}{d:Array flM.Ms}(hlt:g<w.heap.size)(h:HoldsK flM.c 5 w g 0 d):Row flM.c 5 w w.heap.size (some ⟨g,0,none⟩) d.toList:=by
 refine .inr ⟨g,0,rfl,hlt,fun i e he j v hv=>?_⟩
 have hi:i<d.size:=by have:=(List.getElem?_eq_some_iff.1 he).1;simpa using this
 have hj:j<5:=by have:=(List.getElem?_eq_some_iff.1 hv).1;exact this
 have ht:i*5+j<d.size*5:=by omega
 have h1:=(h (i*5+j) (by rw [size_flatK];exact ht)).1
 rw [get_flatK _ _ _ _ ht,show (i*5+j) / 5=i by omega,show (i*5+j) % 5=j by omega] at h1
 have e1:d[i]! = e:=by
  rw [getElem!_pos d i hi]
  have h2:=(List.getElem?_eq_some_iff.1 he).2
  simpa using h2
 rw [e1] at h1
 have e2:(flM.c e)[j]! = v:=(getElem!_pos (flM.c e) j (List.getElem?_eq_some_iff.1 hv).1).trans (List.getElem?_eq_some_iff.1 hv).2
 rw [e2] at h1
 rw [show 0+i*5+j=0+(i*5+j) by omega]
 exact h1
theorem sort_msgs (l:List flM.Ms)(B g cap:Nat)(w:World)(hl:l.length <= 1048576)(ho:w.ownsRow B 48 5 (.slice (some ⟨g,0,none⟩) l.length cap) l.length (l.flatMap flM.c)) :
  Calls Tryz.prog 107 #[.slice (some ⟨g,0,none⟩) l.length cap,.func (.func 101) #[] #[]] w fun e w'=>e=.returned (.tuple #[])/\∃ l',l'.Perm l/\(∀ (i j:Nat) (a b:flM.Ms),i<j->l'[i]?=some a->l'[j]?=some b->a.q <= b.q)/\Row flM.c 5 w' w'.heap.size (some ⟨g,0,none⟩) l'/\RowKit.Below 0 w w'/\∀ k,k<w.heap.size->k≠g->w'.heap[k]?=w.heap[k]?:=by
 have eg:∀ args w,(callFunc 101 args).run Tryz.prog w=.ok (.enter 101 args) w:=enters_of Tryz.func101 (by kernel_rfl) rfl
 have hcon:=AnyQ.slices_SortFunc shs.sortM 5 Tryz.isAgg48 Tryz.sizeOf48 flM.c (fun _=>rfl) (fun x v hv=>by simp [flM.c] at hv;rcases hv with rfl | rfl | rfl | rfl | rfl <;> rfl) cmpM swo 101 #[] g 0 cap l.toArray w eg (lays g 0 l.toArray.size w) (holds ho) (ho.lt g rfl).2 (by simp;omega)
 refine Calls.mono hcon ?_
 rintro e w' ⟨he,d',n,os,hp,hs,hw⟩
 refine⟨he,d'.toList,?_,?_,?_,?_,?_⟩
 ·have h2:=hp.2.2
  have h1:d'.size=l.toArray.size:=hp.1
  have h3:d'.toList.length=l.length:=by simpa using h1
  have h4:(List.take l.length d'.toList).Perm l:=by simpa using h2
  rw [<- h3,List.take_length] at h4
  exact h4
 ·intro i j a b hij ha hb
  have h1:d'.size=l.toArray.size:=hp.1
  obtain⟨li,ea⟩:=List.getElem?_eq_some_iff.1 ha
  obtain⟨lj,eb⟩:=List.getElem?_eq_some_iff.1 hb
  have li':i<d'.size:=by simpa using li
  have lj':j<d'.size:=by simpa using lj
  have h3:=hs i j (Nat.zero_le _) hij (by omega)
  rw [lt_msg,getElem!_pos d' j lj',getElem!_pos d' i li'] at h3
  have ea':d'[i]=a:=by simpa using ea
  have eb':d'[j]=b:=by simpa using eb
  rw [ea',eb'] at h3
  have:=of_decide_eq_false h3
  omega
 ·rw [hw]
  exact row_holds (lt_sortWorldK _ _ _ _ _ _ _ _ (ho.lt g rfl).2) (holdsK_sortWorldK _ _ _ _ _ _ _ _ _ (ho.lt g rfl).2 (holds ho) (by simpa using hp.1))
 ·rw [hw]
  exact⟨rfl,rfl,rfl,size_sortWorldK_c _ _ _ _ _ _ _ _,fun k hk=>by omega⟩
 ·intro k hk hne
  rw [hw]
  unfold sortWorldK grow putRowK putRow mapBlock Sort.ahead
  simp only
  rw [Array.getElem?_append_left (by simpa using hk),Array.getElem?_modify,if_neg (Ne.symm hne)]
end Go.Proofs.YteoojodkkjepeaaGreat.qs
namespace Go.Proofs.YteoojodkkjepeaaGreat.az
open RowKit
theorem wrap_nat {n:Nat}(h:(n:Int) <= 9223372036854775807):IntKind.i64.wrap (n:Int)=(n:Int):=by
 have h0:(0:Int) <= (n:Int):=by omega
 generalize (n:Int)=m at *
 simp [IntKind.wrap,IntKind.signed,IntKind.bits]
 omega
theorem run_append_zeros {P:Program}(w:World)(t u ty e:TypeId)(i:TypeInfo)(z:Value)(ht:P.underlying t=some (.slice e))(hu:P.underlying u=some (.int .i64))(hi:P.info? e=some i)(hz:i.zero=some z)
  (b:Addr) (sLen sCap:Nat) (olds:List Value) (hlo:olds.length=sLen*i.size) (holds:∀ j v,olds[j]?=some v->w.cell? (b.add j)=some v)
  (n:Nat) (hn0:n*i.size≠0) (hg:sCap<sLen+n) (h63:((sLen+n:Nat):Int) <= 9223372036854775807) (hby:((n:Int)*(i.bytes:Int)) <= 281474976710656) (hfit:Builtin.nextslicecap (sLen+n) sCap*i.bytes <= 281474976710656) :
  (Builtin.append_ #[t,u] ty #[.slice (some b) sLen sCap,.int .i64 n]).run P w =
   .ok (.slice (some ⟨w.heap.size,0,none⟩) (sLen+n) (grownCap w (sLen+n) sCap e))
    (w.drew.alloc (.cells (olds.toArray++Builtin.zeroCells z.cells n++Builtin.zeroCells z.cells (grownCap w (sLen+n) sCap e - (sLen+n))) e)):=by
 have hn:¬ (sLen+n <= sCap):=by omega
 have h63':¬ (9223372036854775807<((sLen:Int)+(n:Int))):=by omega
 have h48':¬ (281474976710656<Builtin.nextslicecap (sLen+n) sCap*i.bytes):=by omega
 have hby':¬ (281474976710656<((n:Int)*(i.bytes:Int))):=by omega
 have hw:=wrap_nat (n:=n) (by omega)
 have hn1:¬ ((n:Int)<0):=by omega
 have hfo:=run_firstCells_some (P:=P) w.drew i.size sLen b sLen sCap olds hlo (by simpa using holds)
 simp [Builtin.append_,run_underlying ht,run_underlying hu,sizeOf,typeInfo,zeroValue,hi,hz,asInt,asIntOf,hw,hn,hn1,hby',h63',h48',hn0,Question.forced,hfo,newRow,grownCap]
end Go.Proofs.YteoojodkkjepeaaGreat.az
namespace Go.Proofs.YteoojodkkjepeaaGreat.cpr
open RowKit
theorem run_copy_rows {P:Program}(w:World)(dT sT ty elem:TypeId)(i:TypeInfo)(g o dLen dCap:Nat)(a:Addr)(sLen sCap:Nat)(cur:Array Value)(t:TypeId)(cs:List Value)
  (hu:P.underlying dT=some (.slice elem)) (hi:P.info? elem=some i)
  (hg:w.heap[g]?=some (.cells cur t (0,0))) (hn:cs.length=Nat.min sLen dLen*i.size)
  (hsrc:∀ j v,cs[j]?=some v->w.cell? (a.add j)=some v) (hfit:o+cs.length <= cur.size) (h1:∀ v∈cs,v.oneCell'=true) :
  (Builtin.copy_ #[dT,sT] ty #[.slice (some ⟨g,o,none⟩) dLen dCap,.slice (some a) sLen sCap]).run P w =
   .ok (goInt (Nat.min sLen dLen)) (w.setRow g (cur.toList.take o++cs++cur.toList.drop (o+cs.length)).toArray):=by
 have hl:=run_loadCells_list (P:=P) w a cs hsrc
 have hst:=run_storeCells_at P g o t cs 0 cur w hg (by simpa using hfit) h1
 simp [Builtin.copy_,run_underlying hu,Builtin.lenOf,Builtin.firstCells,sizeOf,typeInfo,hi,<- hn,hl,hst]
theorem wpList_copy_run {P:Program}{w w':World}{ops:Array Oper}{rest:List Oper}{o:Oper}{a:Act}{Q:Exit->Act->World->Prop}(hgd:o.guard=none)(d s:Operand)(t t':TypeId)
  (ho:o.op=.call { callee:=.builtin .copy,args:=#[d,s],argTypes:=#[t,t'] }) (dv sv v:Value) (hd:a.eval d=dv) (hs:a.eval s=sv) (hrun:(Builtin.copy_ #[t,t'] o.type #[dv,sv]).run P w=.ok v w')
  (h:wpList P ops Q rest (a.put o.dst v) w'):wpList P ops Q (o :: rest) a w:=by
 refine wpList_plain hgd fun K hK=>?_
 unfold Oper.wp
 simp [execOp,ho,resolve,invoke,builtin,hd,hs,hrun,Result.andThen]
 exact hK _ _ h
theorem wpList_append_run {P:Program}{w w':World}{ops:Array Oper}{rest:List Oper}{o:Oper}{a:Act}{Q:Exit->Act->World->Prop}(hgd:o.guard=none)(d s:Operand)(t t':TypeId)
  (ho:o.op=.call { callee:=.builtin .append,args:=#[d,s],argTypes:=#[t,t'] }) (dv sv v:Value) (hd:a.eval d=dv) (hs:a.eval s=sv) (hrun:(Builtin.append_ #[t,t'] o.type #[dv,sv]).run P w=.ok v w')
  (h:wpList P ops Q rest (a.put o.dst v) w'):wpList P ops Q (o :: rest) a w:=by
 refine wpList_plain hgd fun K hK=>?_
 unfold Oper.wp
 simp [execOp,ho,resolve,invoke,builtin,hd,hs,hrun,Result.andThen]
 exact hK _ _ h
theorem lastv {P:Program}{fin:Act}{D:Bool->World->Prop}{k:Nat}{o:Oper}(v:Value)(hd:∀ d,o.dst=some d->fin.tmps[d]?=some v)(hrun:∀ W,D false W->∃ W',(execOp fin.eval o).run P W=.ok (.value v) W'/\D true W'):dn.Step P fin (dk.Cl D k) k o:=by
 intro L W _ h0 hC
 have hC':D false W:=by unfold dk.Cl at hC;rw [h0] at hC;exact hC
 obtain⟨W',h1,h2⟩:=hrun W hC'
 refine⟨v,hd,?_⟩
 rw [h1]
 exact⟨rfl,by unfold dk.Cl dn.more;rw [if_pos rfl];exact h2⟩
end Go.Proofs.YteoojodkkjepeaaGreat.cpr
