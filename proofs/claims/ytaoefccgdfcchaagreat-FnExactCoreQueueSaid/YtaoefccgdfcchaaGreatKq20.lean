/- FlatOwn, QSpecWay, StreamRows, CorePure, CoreAt. -/
import Derived.Test.YtaoefccgdfcchaaGreatKq01
import Derived.Laws.AppendOwn
import Derived.Test.YtaoefccgdfcchaaGreatKq19
import Derived.Maps.AppendAt
import Derived.Test.YtaoefccgdfcchaaGreatKq03
import Derived.Test.YtaoefccgdfcchaaGreatKq06
import Derived.Test.YtaoefccgdfcchaaGreatKq17
import Derived.Test.YtaoefccgdfcchaaGreatKq18
set_option maxRecDepth 100000
set_option maxHeartbeats 8000000
set_option linter.unusedVariables false
namespace Go.Proofs.YtaoefccgdfcchaaGreat.fl
open ChangeShapes WideShapes ChangeAt RowKit
section
variable {α:Type} {c:α->List Value} {n:Nat} {l:List α}
theorem flat_len (hn:∀ e,(c e).length=n):∀ l:List α,(l.flatMap c).length=l.length*n
 | []=>by simp
 | x :: r=>by rw [List.flatMap_cons,List.length_append,flat_len hn r,hn,List.length_cons,Nat.add_mul]; omega
theorem flat_at (hn:∀ e,(c e).length=n):∀ (l:List α) (i:Nat) (e:α),l[i]?=some e->∀ (j:Nat) (v:Value),(c e)[j]?=some v->(l.flatMap c)[i*n+j]?=some v
 | [],i,e,h=>by simp at h
 | x :: r,0,e,h=>fun j v hv=>by
  simp at h
  subst h
  have hj:=(List.getElem?_eq_some_iff.1 hv).1
  rw [List.flatMap_cons,Nat.zero_mul,Nat.zero_add,List.getElem?_append_left hj]
  exact hv
 | x :: r,i+1,e,h=>fun j v hv=>by
  have ih:=flat_at hn r i e (by simpa using h) j v hv
  rw [List.flatMap_cons,List.getElem?_append_right (by rw [hn,Nat.add_mul]; omega),hn,show (i+1)*n+j - n=i*n+j by rw [Nat.add_mul]; omega]
  exact ih
theorem flat_get (hn:∀ e,(c e).length=n):∀ (l:List α) (j:Nat) (u:Value),(l.flatMap c)[j]?=some u->∃ i e r,l[i]?=some e/\(c e)[r]?=some u/\j=i*n+r
 | [],j,u,h=>by simp at h
 | x :: r,j,u,h=>by
  rw [List.flatMap_cons] at h
  by_cases hj:j < n
  ·rw [List.getElem?_append_left (by rw [hn]; exact hj)] at h
   exact ⟨0,x,j,rfl,h,by omega⟩
  ·rw [List.getElem?_append_right (by rw [hn]; omega),hn] at h
   obtain ⟨i,e,k,h1,h2,h3⟩:=flat_get hn r (j - n) u h
   exact ⟨i+1,e,k,by simpa using h1,h2,by rw [Nat.add_mul]; omega⟩
theorem own_row {w:World} {B:Nat} {T:TypeId} {v:Value} (hn:∀ e,(c e).length=n) (h:w.ownsRow B T n v l.length (l.flatMap c)):∃ a cap,v=.slice a l.length cap/\Row c n w w.heap.size a l:=by
 obtain ⟨_,⟨rfl,h0⟩ | ⟨g,cap,cur,rfl,_,h1,_,_,h3,h4⟩⟩:=h
 ·have:l=[]:=List.eq_nil_of_length_eq_zero h0
  subst this
  exact ⟨none,0,rfl,.inl rfl⟩
 ·refine ⟨_,cap,rfl,.inr ⟨g,0,rfl,(Array.getElem?_eq_some_iff.1 h1).1,fun i e he j v hv=>?_⟩⟩
  have hf:=flat_at hn l i e he j v hv
  rw [<- h4] at hf
  have hlt:=(List.getElem?_eq_some_iff.1 hf).1
  rw [List.length_take] at hlt
  rw [List.getElem?_take_of_lt (by omega)] at hf
  rw [Nat.zero_add]
  exact bcell h1 (by simpa using hf)
end
end Go.Proofs.YtaoefccgdfcchaaGreat.fl
namespace Go.Proofs.YtaoefccgdfcchaaGreat.qsp
open ChangeShapes WideShapes ChangeAt RowKit fl
structure Fit (sn:ByteArray) (es:List flM.Ms) (ms:List flH.Hd):Prop where
 ns:sn.size <= 1048576
 el:es.length <= 1048576
 ml:ms.length <= 1048576
 eb:∀ e ∈ es,e.x.size <= 1048576/\e.k.size <= 1048576/\e.b.size <= 1048576
 mb:∀ e ∈ ms,e.m.x.size <= 1048576/\e.m.k.size <= 1048576/\e.m.b.size <= 1048576
noncomputable def okB (sn:ByteArray) (nx:Int) (es:List flM.Ms) (ms:List flH.Hd):Bool:=@decide (qk.OkQ sn nx es ms) (Classical.propDecidable _)
theorem okB_true {sn:ByteArray} {nx:Int} {es:List flM.Ms} {ms:List flH.Hd}:okB sn nx es ms=true ↔ qk.OkQ sn nx es ms:=by unfold okB; exact @decide_eq_true_iff _ (Classical.propDecidable _)
theorem okB_of {sn:ByteArray} {nx:Int} {es:List flM.Ms} {ms:List flH.Hd} {b:Bool} (h:b=true ↔ qk.OkQ sn nx es ms):okB sn nx es ms=b:=by
 cases b with
 | true=>exact okB_true.2 (h.1 rfl)
 | false =>
  cases hh:okB sn nx es ms with
  | false=>rfl
  | true=>have:=h.2 (okB_true.1 hh); cases this
theorem own_empty (w:World) (B:Nat) (U:TypeId) (s:Nat) (hB:B <= w.heap.size):(w.alloc (.cells #[] U)).ownsRow B U s (.slice (some ⟨w.heap.size,0,none⟩) 0 0) 0 [] :=
 ⟨by simp,.inr ⟨w.heap.size,0,#[],rfl,hB,bnew w _ _,Nat.le_refl _,by unfold maxLen; omega,by simp,by simp⟩⟩
theorem own_stay {w w':World} {B n:Nat} {U:TypeId} {s g cap:Nat} {xs:List Value} (h:w.ownsRow B U s (.slice (some ⟨g,0,none⟩) n cap) n xs) (hb:Below w.heap.size w w'):w'.ownsRow B U s (.slice (some ⟨g,0,none⟩) n cap) n xs:=by
 obtain ⟨h0,⟨h1,_⟩ | ⟨g',cap',cur,h1,h2,h3,h4⟩⟩:=h
 ·cases h1
 ·cases h1
  exact ⟨h0,.inr ⟨g,cap,cur,rfl,h2,bstay h3 hb (Array.getElem?_eq_some_iff.1 h3).1,h4⟩⟩
theorem form {w:World} {B n:Nat} {U:TypeId} {s:Nat} {v:Value} {xs:List Value} (h:w.ownsRow B U s v n xs) (hv:v ≠ .slice none 0 0):∃ g cap,v=.slice (some ⟨g,0,none⟩) n cap/\B <= g/\g < w.heap.size:=by
 obtain ⟨_,⟨rfl,h0⟩ | ⟨g,cap,cur,rfl,hB,hg,_⟩⟩:=h
 ·exact absurd rfl hv
 ·exact ⟨g,cap,rfl,hB,(Array.getElem?_eq_some_iff.1 hg).1⟩
theorem add_at (g o j:Nat):(⟨g,o,none⟩:Addr).add j=⟨g,o+j,none⟩:=by unfold Addr.add; split <;> simp_all
theorem newsR {α:Type} {c:α->List Value} {n:Nat} (hn:∀ e,(c e).length=n) {w:World} {g B:Nat} {l:List α} (h:Row c n w B (some ⟨g,0,none⟩) l):∀ (j:Nat) (u:Value),(l.flatMap c)[j]?=some u->w.cell? ((⟨g,0,none⟩:Addr).add j)=some u:=fun j u hu=>by
 obtain ⟨i,e,r,h1,h2,rfl⟩:=flat_get hn l j u hu
 rw [add_at,Nat.zero_add]
 rcases h with rfl | ⟨b,off,ha,_,hc⟩
 ·simp at h1
 ·cases ha
  have:=hc i e h1 r u h2
  rw [Nat.zero_add] at this
  exact this
theorem oneY (es:List flM.Ms):∀ u ∈ es.flatMap flM.c,u.oneCell'=true:=fun u hu=>by
 obtain ⟨e,_,he⟩:=List.mem_flatMap.1 hu
 simp [flM.c] at he
 rcases he with rfl | rfl | rfl | rfl | rfl <;> rfl
theorem oneK (ms:List flH.Hd):∀ u ∈ ms.flatMap flH.c,u.oneCell'=true:=fun u hu=>by
 obtain ⟨e,_,he⟩:=List.mem_flatMap.1 hu
 simp [flH.c] at he
 rcases he with rfl | rfl | rfl | rfl | rfl | rfl | rfl <;> rfl
theorem infoY:∃ i0,Tryz.prog.info? 129=some i0/\i0.zero=some (.agg #[.int .i64 0,.string ByteArray.empty,.string ByteArray.empty,.string ByteArray.empty,.bool false])/\i0.size=5/\i0.bytes=64:=by
 have h:=flM.info
 cases hh:Tryz.prog.info? 129 with
 | none=>rw [hh] at h; cases h
 | some i=>rw [hh] at h; simp at h; exact ⟨i,rfl,h.1,h.2.1,h.2.2⟩
theorem infoK:∃ i0,Tryz.prog.info? 131=some i0/\i0.zero=some (.agg #[.int .i64 0,.int .i64 0,.int .i64 0,.string ByteArray.empty,.string ByteArray.empty,.string ByteArray.empty,.bool false])/\i0.size=7/\i0.bytes=80:=by
 have h:=flH.info
 cases hh:Tryz.prog.info? 131 with
 | none=>rw [hh] at h; cases h
 | some i=>rw [hh] at h; simp at h; exact ⟨i,rfl,h.1,h.2.1,h.2.2⟩
theorem grown_at {w w':World} {r:Option Nat} {b:Nat} {o:Obj} (hg:w.grownBy w' r) (h:w.heap[b]?=some o) (hr:r ≠ some b):w'.heap[b]?=some o:=(hg.block b (Array.getElem?_eq_some_iff.1 h).1 (fun e=>hr e.symm)).trans h
theorem own_set {w:World} {B n:Nat} {U:TypeId} {s:Nat} {v:Value} {xs:List Value} (h:w.ownsRow B U s v n xs) (b o:Nat) (u:Value) (hb:b < B):(w.setCell ⟨b,o,none⟩ u).ownsRow B U s v n xs:=by
 obtain ⟨h0,h1 | ⟨g,cap,cur,h1,h2,h3,h4⟩⟩:=h
 ·exact ⟨h0,.inl h1⟩
 ·exact ⟨h0,.inr ⟨g,cap,cur,h1,h2,boff h3 b o u (by omega),h4⟩⟩
theorem own_low {w:World} {B B' n:Nat} {U:TypeId} {s:Nat} {v:Value} {xs:List Value} (h:w.ownsRow B U s v n xs) (hb:B' <= B):w.ownsRow B' U s v n xs:=by
 obtain ⟨h0,h1 | ⟨g,cap,cur,h1,h2,h3⟩⟩:=h
 ·exact ⟨h0,.inl h1⟩
 ·exact ⟨h0,.inr ⟨g,cap,cur,h1,by omega,h3⟩⟩
theorem apart {w:World} {B n m g h c1 c2:Nat} {xs ys:List Value} (h1:w.ownsRow B 129 5 (.slice (some ⟨g,0,none⟩) n c1) n xs) (h2:w.ownsRow B 131 7 (.slice (some ⟨h,0,none⟩) m c2) m ys):g ≠ h:=by
 obtain ⟨_,⟨h1,_⟩ | ⟨g1,cap,cur,h1,_,h3,_⟩⟩:=h1
 ·cases h1
 obtain ⟨_,⟨h2,_⟩ | ⟨g2,cap2,cur2,h2,_,h4,_⟩⟩:=h2
 ·cases h2
 cases h1
 cases h2
 rintro rfl
 rw [h3] at h4
 simp at h4
def sets (w:World) (a b:Nat) (u x0 x2 x3 x4:Value):World:=((((w.setCell ⟨a,3,none⟩ u).setCell ⟨b,0,none⟩ x0).setCell ⟨b,1,none⟩ x2).setCell ⟨b,2,none⟩ x3).setCell ⟨b,3,none⟩ x4
theorem own_sets {w:World} {B n a b:Nat} {U:TypeId} {s:Nat} {v u x0 x2 x3 x4:Value} {xs:List Value} (h:w.ownsRow B U s v n xs) (hb:a < B/\b < B):(sets w a b u x0 x2 x3 x4).ownsRow B U s v n xs :=
 own_set (own_set (own_set (own_set (own_set h _ _ _ hb.1) _ _ _ hb.2) _ _ _ hb.2) _ _ _ hb.2) _ _ _ hb.2
theorem sets_below {w0 w:World} {a b:Nat} {u x0 x2 x3 x4:Value} (h:Below w0.heap.size w0 w) (ha:w0.heap.size <= a/\w0.heap.size <= b):Below w0.heap.size w0 (sets w a b u x0 x2 x3 x4) :=
 ((((h.setCell ha.1 _).setCell ha.2 _).setCell ha.2 _).setCell ha.2 _).setCell ha.2 _
theorem spec_copy (sn:ByteArray) (nx:Int) (es:List flM.Ms) (ms:List flH.Hd) (g h cg ch:Nat) (w:World) (F:Fit sn es ms) (hY:Row flM.c 5 w w.heap.size (some ⟨g,0,none⟩) es) (hE:Row flH.c 7 w w.heap.size (some ⟨h,0,none⟩) ms) :
  Calls Tryz.prog 42 #[.agg #[.string sn,.int .i64 nx,.slice (some ⟨g,0,none⟩) es.length cg,.slice (some ⟨h,0,none⟩) ms.length ch]] w fun e w'=>∃ g1 c1 h1 c2,e=.returned (.agg #[.string sn,.int .i64 nx,.slice (some ⟨g1,0,none⟩) es.length c1,.slice (some ⟨h1,0,none⟩) ms.length c2])/\w'.ownsRow w.heap.size 129 5 (.slice (some ⟨g1,0,none⟩) es.length c1) es.length (es.flatMap flM.c)/\w'.ownsRow w.heap.size 131 7 (.slice (some ⟨h1,0,none⟩) ms.length c2) ms.length (ms.flatMap flH.c)/\g1 ≠ h1/\Below w.heap.size w w':=by
 obtain ⟨i0,hi,hz0,hz1,hz2⟩:=infoY
 obtain ⟨i1,ki,kz0,kz1,kz2⟩:=infoK
 have hel:=F.el
 have hml:=F.ml
 have hb:Below w.heap.size w (((w.alloc (.cells #[.string sn,.int .i64 nx,.slice (some ⟨g,0,none⟩) es.length cg,.slice (some ⟨h,0,none⟩) ms.length ch] 58)).alloc (.cells #[.string ⟨#[]⟩,.int .i64 0,.slice none 0 0,.slice none 0 0] 58)).alloc (.cells #[] 129)):=(((Below.refl _ _).alloc (Nat.le_refl _) _).alloc (by simp) _).alloc (by simp; omega) _
 have hA:=bold (bold (bnew w #[.string sn,.int .i64 nx,.slice (some ⟨g,0,none⟩) es.length cg,.slice (some ⟨h,0,none⟩) ms.length ch] 58) (.cells #[.string ⟨#[]⟩,.int .i64 0,.slice none 0 0,.slice none 0 0] 58)) (.cells #[] 129)
 have hR:=bold (bnew (w.alloc (.cells #[.string sn,.int .i64 nx,.slice (some ⟨g,0,none⟩) es.length cg,.slice (some ⟨h,0,none⟩) ms.length ch] 58)) #[.string ⟨#[]⟩,.int .i64 0,.slice none 0 0,.slice none 0 0] 58) (.cells #[] 129)
 rw [World.size_alloc] at hR
 have ho:=own_empty ((w.alloc (.cells #[.string sn,.int .i64 nx,.slice (some ⟨g,0,none⟩) es.length cg,.slice (some ⟨h,0,none⟩) ms.length ch] 58)).alloc (.cells #[.string ⟨#[]⟩,.int .i64 0,.slice none 0 0,.slice none 0 0] 58)) (w.heap.size+2) 129 5 (by simp)
 have hS:(((w.alloc (.cells #[.string sn,.int .i64 nx,.slice (some ⟨g,0,none⟩) es.length cg,.slice (some ⟨h,0,none⟩) ms.length ch] 58)).alloc (.cells #[.string ⟨#[]⟩,.int .i64 0,.slice none 0 0,.slice none 0 0] 58)).alloc (.cells #[] 129)).heap.size=w.heap.size+3:=by simp
 have hS2:((w.alloc (.cells #[.string sn,.int .i64 nx,.slice (some ⟨g,0,none⟩) es.length cg,.slice (some ⟨h,0,none⟩) ms.length ch] 58)).alloc (.cells #[.string ⟨#[]⟩,.int .i64 0,.slice none 0 0,.slice none 0 0] 58)).heap.size=w.heap.size+2:=by simp
 rw [hS2] at ho
 obtain ⟨W,hW⟩:∃ W,((w.alloc (.cells #[.string sn,.int .i64 nx,.slice (some ⟨g,0,none⟩) es.length cg,.slice (some ⟨h,0,none⟩) ms.length ch] 58)).alloc (.cells #[.string ⟨#[]⟩,.int .i64 0,.slice none 0 0,.slice none 0 0] 58)).alloc (.cells #[] 129)=W:=⟨_,rfl⟩
 rw [hW] at hb hA hR ho hS
 have HYW:Hid (Row flM.c 5 W W.heap.size (some ⟨g,0,none⟩) es):=hY.inn hb
 have HEw:Hid (Row flH.c 7 w w.heap.size (some ⟨h,0,none⟩) ms):=hE
 have x3:W.cell? ⟨w.heap.size,2,none⟩=some (.slice (some ⟨g,0,none⟩) es.length cg):=bcell hA rfl
 have x3f:=bfree hA 2
 have HA:Hid (W.heap[w.heap.size]?=some (.cells #[.string sn,.int .i64 nx,.slice (some ⟨g,0,none⟩) es.length cg,.slice (some ⟨h,0,none⟩) ms.length ch] 58 (0,0))):=hA
 have HR:Hid (W.heap[w.heap.size+1]?=some (.cells #[.string ⟨#[]⟩,.int .i64 0,.slice none 0 0,.slice none 0 0] 58 (0,0))):=hR
 have HO:Hid (W.ownsRow (w.heap.size+2) 129 5 (.slice (some ⟨w.heap.size+2,0,none⟩) 0 0) 0 []):=ho
 clear hY hE hA hR ho F
 go_enter Tryz.func42,Tryz.ntmps42
 go_wp2_with (at_builtin; refine wpList_append_own _ rfl _ _ 55 rfl (w.heap.size+2) 129 i0 (.agg #[.int .i64 0,.string ByteArray.empty,.string ByteArray.empty,.string ByteArray.empty,.bool false]) 5 64 Tryz.underlying55 hi hz0 hz1 hz2 rfl (by decide) _ 0 [] rfl (by exact HO.out) ⟨g,0,none⟩ es.length cg (es.flatMap flM.c) rfl (flat_len flM.c_len es) (by exact newsR flM.c_len HYW.out) (oneY es) (by unfold maxLen; omega) (by omega) (by omega) ?_)
 intro v1 w1 hown1 hgrow1 hnil1
 obtain ⟨g1,c1,rfl,hg1,hg1l⟩:=form hown1 (fun e=>by first | exact hnil1 e | (have:=hnil1.1 e; cases this.1))
 have hgr1:W.grownBy w1 (some (w.heap.size+2)):=hgrow1
 have a1:=grown_at hgr1 HA.out (by simp)
 have r1:=grown_at hgr1 HR.out (by simp)
 have hs1:=hgr1.size
 have y3:w1.cell? ⟨w.heap.size,2,none⟩=some (.slice (some ⟨g,0,none⟩) es.length cg):=bcell a1 rfl
 have y3f:=bfree a1 2
 have hb1:Below w.heap.size w w1:=hb.grown hgr1 (by omega) (fun b hb=>by cases hb; omega)
 -- the row is stored,and the second empty row laid
 have a2:=bold (bset a1 2 (.slice (some ⟨g1,0,none⟩) es.length c1)) (.cells #[] 131)
 have r2:=bold (boff r1 w.heap.size 2 (.slice (some ⟨g1,0,none⟩) es.length c1) (by omega)) (.cells #[] 131)
 have hb2:Below w.heap.size w ((w1.setCell ⟨w.heap.size,2,none⟩ (.slice (some ⟨g1,0,none⟩) es.length c1)).alloc (.cells #[] 131)):=(hb1.setCell (Nat.le_refl _) _).alloc (by simp; omega) _
 have hsz2:(w1.setCell ⟨w.heap.size,2,none⟩ (.slice (some ⟨g1,0,none⟩) es.length c1)).heap.size=w1.heap.size:=by simp
 have o2:=own_empty (w1.setCell ⟨w.heap.size,2,none⟩ (.slice (some ⟨g1,0,none⟩) es.length c1)) (w.heap.size+2) 131 7 (by simp; omega)
 rw [hsz2] at o2
 have e2:((w1.setCell ⟨w.heap.size,2,none⟩ (.slice (some ⟨g1,0,none⟩) es.length c1)).alloc (.cells #[] 131)).ownsRow (w.heap.size+2) 129 5 (.slice (some ⟨g1,0,none⟩) es.length c1) es.length (es.flatMap flM.c):=(own_set hown1 w.heap.size 2 (.slice (some ⟨g1,0,none⟩) es.length c1) (by omega)).alloc _
 have hS3:((w1.setCell ⟨w.heap.size,2,none⟩ (.slice (some ⟨g1,0,none⟩) es.length c1)).alloc (.cells #[] 131)).heap.size=w1.heap.size+1:=by simp
 obtain ⟨W2,hW2⟩:∃ W2,(w1.setCell ⟨w.heap.size,2,none⟩ (.slice (some ⟨g1,0,none⟩) es.length c1)).alloc (.cells #[] 131)=W2:=⟨_,rfl⟩
 rw [hW2] at a2 r2 hb2 o2 e2 hS3
 have HEW:Hid (Row flH.c 7 W2 W2.heap.size (some ⟨h,0,none⟩) ms):=HEw.out.inn hb2
 have x4:W2.cell? ⟨w.heap.size,3,none⟩=some (.slice (some ⟨h,0,none⟩) ms.length ch):=bcell a2 rfl
 have HA2:Hid (W2.heap[w.heap.size]?=some (.cells #[.string sn,.int .i64 nx,.slice (some ⟨g1,0,none⟩) es.length c1,.slice (some ⟨h,0,none⟩) ms.length ch] 58 (0,0))):=a2
 have HR2:Hid (W2.heap[w.heap.size+1]?=some (.cells #[.string ⟨#[]⟩,.int .i64 0,.slice none 0 0,.slice none 0 0] 58 (0,0))):=r2
 have HO2:Hid (W2.ownsRow (w.heap.size+2) 131 7 (.slice (some ⟨w1.heap.size,0,none⟩) 0 0) 0 []):=o2
 have HE2:Hid (W2.ownsRow (w.heap.size+2) 129 5 (.slice (some ⟨g1,0,none⟩) es.length c1) es.length (es.flatMap flM.c)):=e2
 clear a1 r1 a2 r2 o2 e2 hown1 hgrow1 hnil1 hgr1 hW x3 x3f HYW HA HR HO HEw
 go_wp2_with (at_builtin; refine wpList_append_own _ rfl _ _ 56 rfl (w.heap.size+2) 131 i1 (.agg #[.int .i64 0,.int .i64 0,.int .i64 0,.string ByteArray.empty,.string ByteArray.empty,.string ByteArray.empty,.bool false]) 7 80 Tryz.underlying56 ki kz0 kz1 kz2 rfl (by decide) _ 0 [] rfl (by exact HO2.out) ⟨h,0,none⟩ ms.length ch (ms.flatMap flH.c) rfl (flat_len flH.c_len ms) (by exact newsR flH.c_len HEW.out) (oneK ms) (by unfold maxLen; omega) (by omega) (by omega) ?_)
 intro v2 w2 hown2 hgrow2 hnil2
 obtain ⟨h1,c2,rfl,hh1,hh1l⟩:=form hown2 (fun e=>by first | exact hnil2 e | (have:=hnil2.1 e; cases this.1))
 have hgr2:W2.grownBy w2 (some w1.heap.size):=hgrow2
 have a3:=grown_at hgr2 HA2.out (by simp; omega)
 have r3:=grown_at hgr2 HR2.out (by simp; omega)
 have hs2:=hgr2.size
 have e3:=HE2.out.kept hgr2 (.inr (by simp [Value.ownBlock]; omega))
 have hne:g1 ≠ h1:=apart e3 hown2
 obtain ⟨y0,y2,y3,y4⟩:=fl.q4 a3
 have y4f:=bfree a3 3
 obtain ⟨z0,z2,z3,z4⟩:=fl.q4 r3
 obtain ⟨z0f,z2f,z3f,z4f⟩:=fl.r4 r3
 have hb3:Below w.heap.size w w2:=hb2.grown hgr2 (by omega) (fun b hb=>by cases hb; omega)
 have HE3:Hid (w2.ownsRow (w.heap.size+2) 129 5 (.slice (some ⟨g1,0,none⟩) es.length c1) es.length (es.flatMap flM.c)):=e3
 have HM3:Hid (w2.ownsRow (w.heap.size+2) 131 7 (.slice (some ⟨h1,0,none⟩) ms.length c2) ms.length (ms.flatMap flH.c)):=hown2
 clear a3 r3 e3 hown2 hgrow2 hnil2 hgr2 hW2 x4 HA2 HR2 HO2 HE2 HEW
 go_wp2
 refine bodyPost_ret (v:=.agg #[.string sn,.int .i64 nx,.slice (some ⟨g1,0,none⟩) es.length c1,.slice (some ⟨h1,0,none⟩) ms.length c2]) (by simp [results,Tryz.results42,go_sem,z0,z2,z3,z4]) rfl ⟨g1,c1,h1,c2,rfl,?_,?_,hne,?_⟩
 ·exact own_low (own_sets HE3.out (by omega)) (by omega)
 ·exact own_low (own_sets HM3.out (by omega)) (by omega)
 ·exact sets_below hb3 (by omega)
structure SP (w:World) (sn:ByteArray) (nx:Int) (es:List flM.Ms) (ms:List flH.Hd) (g h cg ch:Nat) (n8:Nat) (nv:Int) (g1 c1 h1 c2:Nat) (l:List flM.Ms) (X:World):Prop where
 bel:Below w.heap.size w X
 box:X.heap[w.heap.size]?=some (.cells #[.string sn,.int .i64 nx,.slice (some ⟨g,0,none⟩) es.length cg,.slice (some ⟨h,0,none⟩) ms.length ch] 58 (0,0))
 res:X.heap[w.heap.size+1]?=some (.cells #[.string ⟨#[]⟩,.int .i64 0,.slice none 0 0,.slice none 0 0] 58 (0,0))
 out:X.heap[n8]?=some (.cells #[.string sn,.int .i64 nv,.slice (some ⟨g1,0,none⟩) l.length c1,.slice (some ⟨h1,0,none⟩) ms.length c2] 58 (0,0))
 oe:X.ownsRow (w.heap.size+2) 129 5 (.slice (some ⟨g1,0,none⟩) l.length c1) l.length (l.flatMap flM.c)
 om:X.ownsRow (w.heap.size+2) 131 7 (.slice (some ⟨h1,0,none⟩) ms.length c2) ms.length (ms.flatMap flH.c)
 h8:w.heap.size+2 <= n8
section
variable {w:World} {sn:ByteArray} {nx:Int} {es:List flM.Ms} {ms:List flH.Hd} {g h cg ch:Nat} {n8 g1 c1 h1 c2:Nat} {nv:Int} {l:List flM.Ms} {X X':World}
theorem SP.on (hs:SP w sn nx es ms g h cg ch n8 nv g1 c1 h1 c2 l X) (hb:Below X.heap.size X X'):SP w sn nx es ms g h cg ch n8 nv g1 c1 h1 c2 l X' :=
 ⟨hs.bel.trans (hb.mono hs.bel.size),bstay hs.box hb (Array.getElem?_eq_some_iff.1 hs.box).1,bstay hs.res hb (Array.getElem?_eq_some_iff.1 hs.res).1,bstay hs.out hb (Array.getElem?_eq_some_iff.1 hs.out).1,own_stay hs.oe hb,own_stay hs.om hb,hs.h8⟩
theorem SP.size (hs:SP w sn nx es ms g h cg ch n8 nv g1 c1 h1 c2 l X):w.heap.size+2 <= X.heap.size:=(Array.getElem?_eq_some_iff.1 hs.res).1
end
end Go.Proofs.YtaoefccgdfcchaaGreat.qsp
namespace Go.Proofs.YtaoefccgdfcchaaGreat.st
open ChangeShapes WideShapes ChangeAt RowKit fl rc rr rf
def RY (w:World) (g:Nat) (l:List flY.En):Prop:=g < w.heap.size/\∀ (i:Nat) (e:flY.En),l[i]?=some e->w.cell? ⟨g,i*3,none⟩=some (.int .i64 e.o)/\w.cell? ⟨g,i*3+1,none⟩=some (.int .i64 e.t)/\w.cell? ⟨g,i*3+2,none⟩=some (.string e.b)
theorem RY.below {w w':World} {g:Nat} {l:List flY.En} (h:RY w g l) (hb:Below w.heap.size w w'):RY w' g l :=
 ⟨Nat.lt_of_lt_of_le h.1 hb.size,fun i e he=>⟨(hb.cell (p:=⟨g,i*3,none⟩) h.1).trans (h.2 i e he).1,(hb.cell (p:=⟨g,i*3+1,none⟩) h.1).trans (h.2 i e he).2.1,(hb.cell (p:=⟨g,i*3+2,none⟩) h.1).trans (h.2 i e he).2.2⟩⟩
theorem ry_own {w:World} {g:Nat} {l:List flY.En} {T:TypeId} (h:Own flY.c 3 T w g l l.length):RY w g l :=
 ⟨h.lt,fun i e he=>⟨h.cell (j:=0) (List.getElem?_eq_some_iff.1 he).1 he rfl,h.cell (j:=1) (List.getElem?_eq_some_iff.1 he).1 he rfl,h.cell (j:=2) (List.getElem?_eq_some_iff.1 he).1 he rfl⟩⟩
theorem re_own {w:World} {g:Nat} {l:List Ex} {T:TypeId} (h:Own flK.c 2 T w g l l.length):RE w g l :=
 ⟨h.lt,fun i e he=>⟨h.cell (j:=0) (List.getElem?_eq_some_iff.1 he).1 he rfl,h.cell (j:=1) (List.getElem?_eq_some_iff.1 he).1 he rfl⟩⟩
structure Fit (sn:ByteArray) (es:List flY.En) (ms:List Ex):Prop where
 ns:sn.size <= 1048576
 el:es.length <= 1048576
 ml:ms.length <= 1048576
 eb:∀ e ∈ es,e.b.size <= 1048576
 mb:∀ e ∈ ms,e.n.size <= 1048576
theorem fit {sn:ByteArray} {es:List flY.En} {ms:List Ex} (h:sn.size+es.length+bulk flY.wt es+ms.length+bulk flK.wt ms <= 1048576):Fit sn es ms :=
 ⟨by omega,by omega,by omega,fun e he=>by have:=bulk_le flY.wt he; have h2:flY.wt e=e.b.size:=rfl; omega,fun e he=>by have:=bulk_le flK.wt he; have h2:flK.wt e=e.n.size:=rfl; omega⟩
def enOk (lo:Int) (i:Nat) (e:flY.En):Prop:=e.o=lo+i/\0 <= e.t/\e.t <= 1000000000/\e.b.size <= 3000
def mkOk (nx:Int) (m:Ex):Prop:=nm.good m.n=true/\0 <= m.k/\m.k <= nx
structure OkT (sn:ByteArray) (lo nx:Int) (es:List flY.En) (ms:List Ex):Prop where
 nmk:nm.good sn=true
 nx0:0 <= nx/\nx <= 1000000000
 lo0:0 <= lo/\lo <= nx
 len:(es.length:Int)=nx - lo
 el:es.length <= 400
 ml:ms.length <= 20
 eo:∀ (i:Nat) e,es[i]?=some e->enOk lo i e
 eu:∀ (i:Nat) a b,es[i]?=some a->es[i+1]?=some b->a.t <= b.t
 mo:∀ (i:Nat) m,ms[i]?=some m->mkOk nx m
 mu:UpE ms ms.length
noncomputable def okB (sn:ByteArray) (lo nx:Int) (es:List flY.En) (ms:List Ex):Bool:=@decide (OkT sn lo nx es ms) (Classical.propDecidable _)
theorem okB_true {sn:ByteArray} {lo nx:Int} {es:List flY.En} {ms:List Ex}:okB sn lo nx es ms=true ↔ OkT sn lo nx es ms:=by unfold okB; exact @decide_eq_true_iff _ (Classical.propDecidable _)
theorem okB_no {sn:ByteArray} {lo nx:Int} {es:List flY.En} {ms:List Ex} (h:¬ OkT sn lo nx es ms):okB sn lo nx es ms=false:=by
 cases hb:okB sn lo nx es ms with
 | false=>rfl
 | true=>exact absurd (okB_true.1 hb) h
def GoodY (lo:Int) (es:List flY.En) (k:Nat):Prop:=(∀ (i:Nat) e,i < k->es[i]?=some e->enOk lo i e)/\∀ (i:Nat) a b,i+1 < k->es[i]?=some a->es[i+1]?=some b->a.t <= b.t
theorem goodY_zero (lo:Int) (es:List flY.En):GoodY lo es 0:=⟨fun i e h=>by omega,fun i a b h=>by omega⟩
theorem goodY_next {lo:Int} {es:List flY.En} {k:Nat} {e:flY.En} (h:GoodY lo es k) (he:es[k]?=some e) (h1:enOk lo k e) (h2:∀ p,k ≠ 0->es[k - 1]?=some p->p.t <= e.t):GoodY lo es (k+1):=by
 refine ⟨fun i f hi hf=>?_,fun i a b hi ha hb=>?_⟩
 ·by_cases ei:i=k
  ·subst ei; rw [he] at hf; cases hf; exact h1
  ·exact h.1 i f (by omega) hf
 ·by_cases ei:i+1=k
  ·subst ei
   rw [he] at hb
   cases hb
   exact h2 a (by omega) (by simpa using ha)
  ·exact h.2 i a b (by omega) ha hb
theorem goodY_all {lo:Int} {es:List flY.En} {k:Nat} (h:GoodY lo es k) (hk:es.length <= k):(∀ (i:Nat) e,es[i]?=some e->enOk lo i e)/\∀ (i:Nat) a b,es[i]?=some a->es[i+1]?=some b->a.t <= b.t :=
 ⟨fun i e he=>h.1 i e (by have:=(List.getElem?_eq_some_iff.1 he).1; omega) he,fun i a b ha hb=>h.2 i a b (by have:=(List.getElem?_eq_some_iff.1 hb).1; omega) ha hb⟩
def GoodK (nx:Int) (ms:List Ex) (k:Nat):Prop:=(∀ (i:Nat) e,i < k->ms[i]?=some e->mkOk nx e)/\UpE ms k
theorem goodK_zero (nx:Int) (ms:List Ex):GoodK nx ms 0:=⟨fun i e h=>by omega,fun i a b h=>by omega⟩
theorem goodK_next {nx:Int} {ms:List Ex} {k:Nat} {e:Ex} (h:GoodK nx ms k) (he:ms[k]?=some e) (h1:mkOk nx e) (h2:∀ p,k ≠ 0->ms[k - 1]?=some p->lt p.n e.n=true):GoodK nx ms (k+1):=by
 refine ⟨fun i f hi hf=>?_,fun i a b hi ha hb=>?_⟩
 ·by_cases ei:i=k
  ·subst ei; rw [he] at hf; cases hf; exact h1
  ·exact h.1 i f (by omega) hf
 ·by_cases ei:i+1=k
  ·subst ei
   rw [he] at hb
   cases hb
   exact ro.cmp_neg.2 (h2 a (by omega) (by simpa using ha))
  ·exact h.2 i a b (by omega) ha hb
end Go.Proofs.YtaoefccgdfcchaaGreat.st
namespace Go.Proofs.YtaoefccgdfcchaaGreat.qu
open ChangeShapes WideShapes ChangeAt RowKit rc rr ro fl
def place (l:List E) (name:ByteArray):Int:=match l.findIdx? (fun e=>decide (e.nm=name)) with | some i=>(i:Int) | none=>-1
theorem place_at {l:List E} {name:ByteArray} {i:Nat} {e:E} (hno:∀ j f,j < i->l[j]?=some f->f.nm ≠ name) (hi:l[i]?=some e) (he:e.nm=name):place l name=i:=by
 have:l.findIdx? (fun e=>decide (e.nm=name))=some i:=by
  rw [List.findIdx?_eq_some_iff_getElem]
  obtain ⟨hlt,hget⟩:=List.getElem?_eq_some_iff.1 hi
  refine ⟨hlt,by rw [hget]; simpa using he,fun j hj=>?_⟩
  simpa using hno j l[j] hj (List.getElem?_eq_getElem (by omega))
 unfold place
 rw [this]
theorem place_none {l:List E} {name:ByteArray} (hno:∀ (j:Nat) f,l[j]?=some f->f.nm ≠ name):place l name=-1:=by
 have:l.findIdx? (fun e=>decide (e.nm=name))=none:=by
  rw [List.findIdx?_eq_none_iff]
  intro e he
  obtain ⟨j,hj⟩:=List.mem_iff_getElem?.1 he
  simpa using hno j e hj
 unfold place
 rw [this]
theorem place_there {l:List E} {name:ByteArray}:0 <= place l name ↔ ∃ (t:Nat) (a:E),l[t]?=some a/\a.nm=name:=by
 cases hf:l.findIdx? (fun e=>decide (e.nm=name)) with
 | none =>
  have h1:=List.findIdx?_eq_none_iff.1 hf
  constructor
  ·intro h
   unfold place at h
   rw [hf] at h
   simp at h
  ·rintro ⟨t,a,ha,hn⟩
   have:=h1 a (List.mem_iff_getElem?.2 ⟨t,ha⟩)
   simp [hn] at this
 | some i =>
  obtain ⟨hlt,hp,_⟩:=List.findIdx?_eq_some_iff_getElem.1 hf
  constructor
  ·intro _
   exact ⟨i,l[i],List.getElem?_eq_getElem hlt,by simpa using hp⟩
  ·intro _
   unfold place
   rw [hf]
   simp
end Go.Proofs.YtaoefccgdfcchaaGreat.qu
namespace Go.Proofs.YtaoefccgdfcchaaGreat.su
open ChangeShapes WideShapes ChangeAt RowKit rc rr ro fl
def place (l:List E) (name:ByteArray):Int:=match l.findIdx? (fun e=>decide (e.nm=name)) with | some i=>(i:Int) | none=>-1
theorem place_at {l:List E} {name:ByteArray} {i:Nat} {e:E} (hno:∀ j f,j < i->l[j]?=some f->f.nm ≠ name) (hi:l[i]?=some e) (he:e.nm=name):place l name=i:=by
 have:l.findIdx? (fun e=>decide (e.nm=name))=some i:=by
  rw [List.findIdx?_eq_some_iff_getElem]
  obtain ⟨hlt,hget⟩:=List.getElem?_eq_some_iff.1 hi
  refine ⟨hlt,by rw [hget]; simpa using he,fun j hj=>?_⟩
  simpa using hno j l[j] hj (List.getElem?_eq_getElem (by omega))
 unfold place
 rw [this]
theorem place_none {l:List E} {name:ByteArray} (hno:∀ (j:Nat) f,l[j]?=some f->f.nm ≠ name):place l name=-1:=by
 have:l.findIdx? (fun e=>decide (e.nm=name))=none:=by
  rw [List.findIdx?_eq_none_iff]
  intro e he
  obtain ⟨j,hj⟩:=List.mem_iff_getElem?.1 he
  simpa using hno j e hj
 unfold place
 rw [this]
theorem place_there {l:List E} {name:ByteArray}:0 <= place l name ↔ ∃ (t:Nat) (a:E),l[t]?=some a/\a.nm=name:=by
 cases hf:l.findIdx? (fun e=>decide (e.nm=name)) with
 | none =>
  have h1:=List.findIdx?_eq_none_iff.1 hf
  constructor
  ·intro h
   unfold place at h
   rw [hf] at h
   simp at h
  ·rintro ⟨t,a,ha,hn⟩
   have:=h1 a (List.mem_iff_getElem?.2 ⟨t,ha⟩)
   simp [hn] at this
 | some i =>
  obtain ⟨hlt,hp,_⟩:=List.findIdx?_eq_some_iff_getElem.1 hf
  constructor
  ·intro _
   exact ⟨i,l[i],List.getElem?_eq_getElem hlt,by simpa using hp⟩
  ·intro _
   unfold place
   rw [hf]
   simp
end Go.Proofs.YtaoefccgdfcchaaGreat.su
namespace Go.Proofs.YtaoefccgdfcchaaGreat.co
open ChangeShapes WideShapes ChangeAt RowKit rc rr ro fl
def GoodQ (qs:List qu.E) (ts:List su.E) (k:Nat):Prop:=(∀ (i:Nat) (e:qu.E),i < k->qs[i]?=some e->qsp.okB e.nm e.nx e.rs e.hs=true/\¬ 0 <= su.place ts e.nm)/\qu.Up qs k
theorem goodQ_next {qs:List qu.E} {ts:List su.E} {k:Nat} {e:qu.E} (h:GoodQ qs ts k) (he:qs[k]?=some e) (h1:qsp.okB e.nm e.nx e.rs e.hs=true) (h2:¬ 0 <= su.place ts e.nm) (h3:∀ p,k ≠ 0->qs[k - 1]?=some p->lt p.nm e.nm=true):GoodQ qs ts (k+1):=by
 refine ⟨fun i f hi hf=>?_,fun i a b hi ha hb=>?_⟩
 ·by_cases e0:i=k
  ·subst e0; rw [he] at hf; cases hf; exact ⟨h1,h2⟩
  ·exact h.1 i f (by omega) hf
 ·by_cases e0:i+1=k
  ·subst e0; rw [he] at hb; cases hb; exact cmp_neg.2 (h3 a (by omega) (by simpa using ha))
  ·exact h.2 i a b (by omega) ha hb
theorem badQ_ok {qs:List qu.E} {ts:List su.E} {k:Nat} {e:qu.E} (he:qs[k]?=some e) (h1:qsp.okB e.nm e.nx e.rs e.hs=false):¬ GoodQ qs ts qs.length:=fun h=>by
 have:=h.1 k e (List.getElem?_eq_some_iff.1 he).1 he
 rw [h1] at this; cases this.1
theorem badQ_up {qs:List qu.E} {ts:List su.E} {k:Nat} {p e:qu.E} (hp:qs[k]?=some p) (he:qs[k+1]?=some e) (h1:lt p.nm e.nm=false):¬ GoodQ qs ts qs.length:=fun h=>by
 have:=cmp_neg.1 (h.2 k p e (List.getElem?_eq_some_iff.1 he).1 hp he)
 rw [h1] at this; cases this
theorem badQ_at {qs:List qu.E} {ts:List su.E} {k:Nat} {e:qu.E} (he:qs[k]?=some e) (h1:0 <= su.place ts e.nm):¬ GoodQ qs ts qs.length:=fun h=>(h.1 k e (List.getElem?_eq_some_iff.1 he).1 he).2 h1
def GoodT (ts:List su.E) (k:Nat):Prop:=(∀ (i:Nat) (e:su.E),i < k->ts[i]?=some e->st.okB e.nm e.lo e.nx e.rs e.hs=true)/\su.Up ts k
theorem goodT_next {ts:List su.E} {k:Nat} {e:su.E} (h:GoodT ts k) (he:ts[k]?=some e) (h1:st.okB e.nm e.lo e.nx e.rs e.hs=true) (h3:∀ p,k ≠ 0->ts[k - 1]?=some p->lt p.nm e.nm=true):GoodT ts (k+1):=by
 refine ⟨fun i f hi hf=>?_,fun i a b hi ha hb=>?_⟩
 ·by_cases e0:i=k
  ·subst e0; rw [he] at hf; cases hf; exact h1
  ·exact h.1 i f (by omega) hf
 ·by_cases e0:i+1=k
  ·subst e0; rw [he] at hb; cases hb; exact cmp_neg.2 (h3 a (by omega) (by simpa using ha))
  ·exact h.2 i a b (by omega) ha hb
theorem badT_ok {ts:List su.E} {k:Nat} {e:su.E} (he:ts[k]?=some e) (h1:st.okB e.nm e.lo e.nx e.rs e.hs=false):¬ GoodT ts ts.length:=fun h=>by
 have:=h.1 k e (List.getElem?_eq_some_iff.1 he).1 he
 rw [h1] at this; cases this
theorem badT_up {ts:List su.E} {k:Nat} {p e:su.E} (hp:ts[k]?=some p) (he:ts[k+1]?=some e) (h1:lt p.nm e.nm=false):¬ GoodT ts ts.length:=fun h=>by
 have:=cmp_neg.1 (h.2 k p e (List.getElem?_eq_some_iff.1 he).1 hp he)
 rw [h1] at this; cases this
structure OkC (es:List Ex) (bs:List Bi) (qs:List qu.E) (ts:List su.E):Prop where
 q:GoodQ qs ts qs.length
 t:GoodT ts ts.length
 r:OkR es bs
 ql:qs.length <= 20
 tl:ts.length <= 20
noncomputable def okC (es:List Ex) (bs:List Bi) (qs:List qu.E) (ts:List su.E):Bool:=@decide (OkC es bs qs ts) (Classical.propDecidable _)
theorem okC_true {es:List Ex} {bs:List Bi} {qs:List qu.E} {ts:List su.E}:okC es bs qs ts=true ↔ OkC es bs qs ts:=by unfold okC; exact @decide_eq_true_iff _ (Classical.propDecidable _)
theorem okC_no {es:List Ex} {bs:List Bi} {qs:List qu.E} {ts:List su.E} (h:¬ OkC es bs qs ts):okC es bs qs ts=false:=by
 cases hb:okC es bs qs ts with
 | false=>rfl
 | true=>exact absurd (okC_true.1 hb) h
noncomputable def okR (es:List Ex) (bs:List Bi):Bool:=@decide (OkR es bs) (Classical.propDecidable _)
theorem okR_true {es:List Ex} {bs:List Bi}:okR es bs=true ↔ OkR es bs:=by unfold okR; exact @decide_eq_true_iff _ (Classical.propDecidable _)
theorem okR_of {es:List Ex} {bs:List Bi} {b:Bool} (h:b=true ↔ OkR es bs):b=okR es bs:=by
 cases b with
 | true=>exact (okR_true.2 (h.1 rfl)).symm
 | false =>
  cases hh:okR es bs with
  | false=>rfl
  | true=>exact (h.2 (okR_true.1 hh))
end Go.Proofs.YtaoefccgdfcchaaGreat.co
namespace Go.Proofs.YtaoefccgdfcchaaGreat.qu
open ChangeShapes WideShapes ChangeAt RowKit rc rr ro fl
theorem spec_at (l:List E) (a xa ya za:Option Addr) (cap xn xc yn yc zn zc:Nat) (name:ByteArray) (w:World) (hl:l.length <= 1048576) (hE:Row c 4 w w.heap.size a l) :
  Calls Tryz.prog 15 #[.agg #[.slice xa xn xc,.slice ya yn yc,.slice a l.length cap,.slice za zn zc],.string name] w fun r w'=>r=.returned (.int .i64 (place l name))/\Below w.heap.size w w':=by
 have hb:=fl.bl w (.cells #[.slice xa xn xc,.slice ya yn yc,.slice a l.length cap,.slice za zn zc] 38)
 have hA:=bnew w #[.slice xa xn xc,.slice ya yn yc,.slice a l.length cap,.slice za zn zc] 38
 have c0:(w.alloc (.cells #[.slice xa xn xc,.slice ya yn yc,.slice a l.length cap,.slice za zn zc] 38)).cell? ⟨w.heap.size,2,none⟩=some (.slice a l.length cap):=bcell hA rfl
 have hE2:=hE.inn hb
 obtain ⟨W,hW⟩:∃ W,w.alloc (.cells #[.slice xa xn xc,.slice ya yn yc,.slice a l.length cap,.slice za zn zc] 38)=W:=⟨_,rfl⟩
 rw [hW] at hb hE2 c0
 clear hE hA
 rcases hE2 with rfl | ⟨b,off,rfl,hlt,hc⟩
 ·go_enter Tryz.func15,Tryz.ntmps15
  go_wp2
  refine wp_loop_rounds 1 ?_
  rw [rounds_succ]
  go_wp2
  go_ret
  exact ⟨rfl,(Below.refl _ _).alloc (Nat.le_refl _) _⟩
 ·have HC:Hid (∀ (i:Nat) (e:E),l[i]?=some e->∀ (j:Nat) (v:Value),(c e)[j]?=some v->W.cell? ⟨b,off+i*4+j,none⟩=some v):=hc
  clear hc
  go_enter Tryz.func15,Tryz.ntmps15
  go_wp2
  clear hW
  go_loop [5] (fun v=>∃ k:Nat,k <= l.length/\v=.int .i64 k/\Hid (∀ (j:Nat) f,j < k->l[j]?=some f->f.nm ≠ name)) (fun v=>l.length - (intOf v).toNat)
  case atStart=>exact ⟨0,Nat.zero_le _,rfl,fun j f hj=>by omega⟩
  case round =>
   obtain ⟨k,hk,rfl,hno⟩:=hrel
   by_cases hkl:k < l.length
   ·have HG:Hid (l[k]?=some l[k]):=List.getElem?_eq_getElem hkl
    obtain ⟨⟨nm,nx,ra,rc,rs,ha,hc,hs⟩,he⟩:∃ e,l[k]=e:=⟨_,rfl⟩
    rw [he] at HG
    have cn:W.cell? ⟨b,off+k*4,none⟩=some (.string nm):=by have:=HC.out k _ HG.out 0 _ rfl; simpa using this
    clear he
    by_cases hen:nm=name
    ·subst hen
     have hfin:=place_at hno.out HG.out rfl
     go_wp2
     go_ret
     exact ⟨rfl,hb⟩
    ·have n1:=ne_of hen
     have n2:¬ nm.toList=name.toList:=by simpa using n1
     go_wp2
     go_round
     case rel =>
      refine ⟨k+1,by omega,by go_num,fun j f hj hf=>?_⟩
      by_cases e:j=k
      ·subst e
       rw [HG.out] at hf
       cases hf
       exact hen
      ·exact hno.out j f (by omega) hf
     case measure=>simp [intOf]; omega
   ·obtain rfl:k=l.length:=by omega
    have hfin:=place_none (l:=l) (name:=name) (fun j f hf=>hno.out j f (List.getElem?_eq_some_iff.1 hf).1 hf)
    go_wp2
    go_ret
    exact ⟨rfl,hb⟩
end Go.Proofs.YtaoefccgdfcchaaGreat.qu
namespace Go.Proofs.YtaoefccgdfcchaaGreat.su
open ChangeShapes WideShapes ChangeAt RowKit rc rr ro fl
theorem spec_at (l:List E) (a xa ya za:Option Addr) (cap xn xc yn yc zn zc:Nat) (name:ByteArray) (w:World) (hl:l.length <= 1048576) (hE:Row c 5 w w.heap.size a l) :
  Calls Tryz.prog 16 #[.agg #[.slice xa xn xc,.slice ya yn yc,.slice za zn zc,.slice a l.length cap],.string name] w fun r w'=>r=.returned (.int .i64 (place l name))/\Below w.heap.size w w':=by
 have hb:=fl.bl w (.cells #[.slice xa xn xc,.slice ya yn yc,.slice za zn zc,.slice a l.length cap] 38)
 have hA:=bnew w #[.slice xa xn xc,.slice ya yn yc,.slice za zn zc,.slice a l.length cap] 38
 have c0:(w.alloc (.cells #[.slice xa xn xc,.slice ya yn yc,.slice za zn zc,.slice a l.length cap] 38)).cell? ⟨w.heap.size,3,none⟩=some (.slice a l.length cap):=bcell hA rfl
 have hE2:=hE.inn hb
 obtain ⟨W,hW⟩:∃ W,w.alloc (.cells #[.slice xa xn xc,.slice ya yn yc,.slice za zn zc,.slice a l.length cap] 38)=W:=⟨_,rfl⟩
 rw [hW] at hb hE2 c0
 clear hE hA
 rcases hE2 with rfl | ⟨b,off,rfl,hlt,hc⟩
 ·go_enter Tryz.func16,Tryz.ntmps16
  go_wp2
  refine wp_loop_rounds 1 ?_
  rw [rounds_succ]
  go_wp2
  go_ret
  exact ⟨rfl,(Below.refl _ _).alloc (Nat.le_refl _) _⟩
 ·have HC:Hid (∀ (i:Nat) (e:E),l[i]?=some e->∀ (j:Nat) (v:Value),(c e)[j]?=some v->W.cell? ⟨b,off+i*5+j,none⟩=some v):=hc
  clear hc
  go_enter Tryz.func16,Tryz.ntmps16
  go_wp2
  clear hW
  go_loop [5] (fun v=>∃ k:Nat,k <= l.length/\v=.int .i64 k/\Hid (∀ (j:Nat) f,j < k->l[j]?=some f->f.nm ≠ name)) (fun v=>l.length - (intOf v).toNat)
  case atStart=>exact ⟨0,Nat.zero_le _,rfl,fun j f hj=>by omega⟩
  case round =>
   obtain ⟨k,hk,rfl,hno⟩:=hrel
   by_cases hkl:k < l.length
   ·have HG:Hid (l[k]?=some l[k]):=List.getElem?_eq_getElem hkl
    obtain ⟨⟨nm,lo,nx,ra,rc,rs,ha,hc,hs⟩,he⟩:∃ e,l[k]=e:=⟨_,rfl⟩
    rw [he] at HG
    have cn:W.cell? ⟨b,off+k*5,none⟩=some (.string nm):=by have:=HC.out k _ HG.out 0 _ rfl; simpa using this
    clear he
    by_cases hen:nm=name
    ·subst hen
     have hfin:=place_at hno.out HG.out rfl
     go_wp2
     go_ret
     exact ⟨rfl,hb⟩
    ·have n1:=ne_of hen
     have n2:¬ nm.toList=name.toList:=by simpa using n1
     go_wp2
     go_round
     case rel =>
      refine ⟨k+1,by omega,by go_num,fun j f hj hf=>?_⟩
      by_cases e:j=k
      ·subst e
       rw [HG.out] at hf
       cases hf
       exact hen
      ·exact hno.out j f (by omega) hf
     case measure=>simp [intOf]; omega
   ·obtain rfl:k=l.length:=by omega
    have hfin:=place_none (l:=l) (name:=name) (fun j f hf=>hno.out j f (List.getElem?_eq_some_iff.1 hf).1 hf)
    go_wp2
    go_ret
    exact ⟨rfl,hb⟩
end Go.Proofs.YtaoefccgdfcchaaGreat.su
