/- FlatLib, FlatOff, FlatPart, FlMessage, MarkText. -/
import Derived.Test.YtaoefccgdfcchaaGreatRows
import Derived.WalkKit
import Derived.WalkLawsBesides
import Derived.WalkSpells
import Derived.ProofKit
import Derived.OpenShut
import Derived.ShutString
import Derived.Laws.MakeOwn
import Derived.Deep.RegionWith
import Derived.Laws.BytesArg
import Derived.Lib.ItoaNum
import Derived.Lib.Strings
set_option maxRecDepth 100000
set_option maxHeartbeats 8000000
set_option linter.unusedVariables false
namespace Go.Proofs.YtaoefccgdfcchaaGreat.fl
open ChangeShapes WideShapes ChangeAt RowKit
theorem bcell {w:World} {b j:Nat} {cur:Array Value} {T:TypeId} {v:Value} (h:w.heap[b]?=some (.cells cur T (0,0))) (hv:cur[j]?=some v):w.cell? ⟨b,j,none⟩=some v:=by
 simp [World.cell?,h,hv]
theorem bfree {w:World} {b:Nat} {cur:Array Value} {T:TypeId} (h:w.heap[b]?=some (.cells cur T (0,0))) (j:Nat):w.frozen? ⟨b,j,none⟩=false:=by
 simp [World.frozen?,h]
theorem bset {w:World} {b:Nat} {cur:Array Value} {T:TypeId} (h:w.heap[b]?=some (.cells cur T (0,0))) (j:Nat) (v:Value):(w.setCell ⟨b,j,none⟩ v).heap[b]?=some (.cells (cur.setIfInBounds j v) T (0,0)):=heap_setCell_same w b j cur _ v h
theorem boff {w:World} {b:Nat} {o:Obj} (h:w.heap[b]?=some o) (g j:Nat) (v:Value) (hne:b ≠ g):(w.setCell ⟨g,j,none⟩ v).heap[b]?=some o:=(Below.heap_setCell w ⟨g,j,none⟩ v b hne).trans h
theorem bnew (w:World) (cur:Array Value) (T:TypeId):(w.alloc (.cells cur T)).heap[w.heap.size]?=some (.cells cur T (0,0)):=heap_alloc_new w _
theorem bold {w:World} {b:Nat} {o:Obj} (h:w.heap[b]?=some o) (o':Obj):(w.alloc o').heap[b]?=some o:=(Below.heap_alloc w o' b (Array.getElem?_eq_some_iff.1 h).1).trans h
theorem bstay {w w':World} {b B:Nat} {o:Obj} (h:w.heap[b]?=some o) (hb:Below B w w') (hlt:b < B):w'.heap[b]?=some o:=(hb.block b hlt).trans h
theorem bl (w:World) (o:Obj):Below w.heap.size w (w.alloc o):=(Below.refl _ _).alloc (Nat.le_refl _) _
theorem bt {w w1 w2:World} (h1:Below w.heap.size w w1) (h2:Below w1.heap.size w1 w2):Below w.heap.size w w2:=h1.trans (h2.mono h1.size)
theorem q4 {w:World} {b:Nat} {x0 x1 x2 x3:Value} {U:TypeId} (h:w.heap[b]?=some (.cells #[x0,x1,x2,x3] U (0,0))):w.cell? ⟨b,0,none⟩=some x0/\w.cell? ⟨b,1,none⟩=some x1/\w.cell? ⟨b,2,none⟩=some x2/\w.cell? ⟨b,3,none⟩=some x3:=⟨bcell h rfl,bcell h rfl,bcell h rfl,bcell h rfl⟩
theorem q5 {w:World} {b:Nat} {x0 x1 x2 x3 x4:Value} {U:TypeId} (h:w.heap[b]?=some (.cells #[x0,x1,x2,x3,x4] U (0,0))):w.cell? ⟨b,0,none⟩=some x0/\w.cell? ⟨b,1,none⟩=some x1/\w.cell? ⟨b,2,none⟩=some x2/\w.cell? ⟨b,3,none⟩=some x3/\w.cell? ⟨b,4,none⟩=some x4:=⟨bcell h rfl,bcell h rfl,bcell h rfl,bcell h rfl,bcell h rfl⟩
theorem q7 {w:World} {b:Nat} {x0 x1 x2 x3 x4 x5 x6:Value} {U:TypeId} (h:w.heap[b]?=some (.cells #[x0,x1,x2,x3,x4,x5,x6] U (0,0))):w.cell? ⟨b,0,none⟩=some x0/\w.cell? ⟨b,1,none⟩=some x1/\w.cell? ⟨b,2,none⟩=some x2/\w.cell? ⟨b,3,none⟩=some x3/\w.cell? ⟨b,4,none⟩=some x4/\w.cell? ⟨b,5,none⟩=some x5/\w.cell? ⟨b,6,none⟩=some x6:=⟨bcell h rfl,bcell h rfl,bcell h rfl,bcell h rfl,bcell h rfl,bcell h rfl,bcell h rfl⟩
theorem r4 {w:World} {b:Nat} {cur:Array Value} {T:TypeId} (h:w.heap[b]?=some (.cells cur T (0,0))):w.frozen? ⟨b,0,none⟩=false/\w.frozen? ⟨b,1,none⟩=false/\w.frozen? ⟨b,2,none⟩=false/\w.frozen? ⟨b,3,none⟩=false:=⟨bfree h 0,bfree h 1,bfree h 2,bfree h 3⟩
theorem r5 {w:World} {b:Nat} {cur:Array Value} {T:TypeId} (h:w.heap[b]?=some (.cells cur T (0,0))):w.frozen? ⟨b,0,none⟩=false/\w.frozen? ⟨b,1,none⟩=false/\w.frozen? ⟨b,2,none⟩=false/\w.frozen? ⟨b,3,none⟩=false/\w.frozen? ⟨b,4,none⟩=false:=⟨bfree h 0,bfree h 1,bfree h 2,bfree h 3,bfree h 4⟩
theorem bx2 (w:World) (A B:Array Value) (T U:TypeId):∃ W,(w.alloc (.cells A T)).alloc (.cells B U)=W/\Below w.heap.size w W/\W.heap[w.heap.size]?=some (.cells A T (0,0))/\W.heap[w.heap.size+1]?=some (.cells B U (0,0))/\W.heap.size=w.heap.size+2:=by
 refine ⟨_,rfl,((Below.refl _ _).alloc (Nat.le_refl _) _).alloc (by simp) _,bold (bnew w A T) _,?_,by simp⟩
 have:=bnew (w.alloc (.cells A T)) B U
 rwa [World.size_alloc] at this
section
variable {α:Type} {c:α->List Value} {n:Nat} {T:TypeId} {w w':World} {a:Option Addr} {l:List α} {B g k:Nat} {e:α}
def Row (c:α->List Value) (n:Nat) (w:World) (B:Nat) (a:Option Addr) (l:List α):Prop :=
 l=[] ∨ ∃ b off,a=some ⟨b,off,none⟩/\b < B/\∀ (i:Nat) (e:α),l[i]?=some e->∀ (j:Nat) (v:Value),(c e)[j]?=some v->w.cell? ⟨b,off+i*n+j,none⟩=some v
theorem Row.inn (h:Row c n w w.heap.size a l) (hb:Below w.heap.size w w'):Row c n w' w'.heap.size a l:=by
 rcases h with h | ⟨b,off,ha,hlt,hc⟩
 ·exact .inl h
 ·exact .inr ⟨b,off,ha,Nat.lt_of_lt_of_le hlt hb.size,fun i e he j v hv=>(hb.cell (p:=⟨b,_,none⟩) hlt).trans (hc i e he j v hv)⟩
theorem Row.set (h:Row c n w w.heap.size a l) {p:Addr} (hne:∀ b off,a=some ⟨b,off,none⟩->b ≠ p.block) (v:Value):Row c n (w.setCell p v) (w.setCell p v).heap.size a l:=by
 rcases h with h | ⟨b,off,ha,hlt,hc⟩
 ·exact .inl h
 ·exact .inr ⟨b,off,ha,by simpa using hlt,fun i e he j u hu=>(World.cell?_of_block (a:=⟨b,_,none⟩) (Below.heap_setCell w p v b (hne b off ha))).trans (hc i e he j u hu)⟩
def Own (c:α->List Value) (n:Nat) (T:TypeId) (w:World) (g:Nat) (l:List α) (k:Nat):Prop :=
 ∃ cur,w.heap[g]?=some (.cells cur T (0,0))/\cur.size=l.length*n/\∀ (i:Nat) (e:α),i < k->l[i]?=some e->∀ (j:Nat) (v:Value),(c e)[j]?=some v->cur[i*n+j]?=some v
theorem Own.at (h:Own c n T w g l k) (o:Nat) (ho:o < l.length*n):∃ v,w.cell? ⟨g,o,none⟩=some v:=by
 obtain ⟨cur,hg,hs,_⟩:=h
 exact ⟨cur[o]'(by omega),by simp [World.cell?,hg,Array.getElem?_eq_getElem (show o < cur.size by omega)]⟩
theorem Own.free (h:Own c n T w g l k) (o:Nat):w.frozen? ⟨g,o,none⟩=false:=by
 obtain ⟨cur,hg,_⟩:=h
 simp [World.frozen?,hg]
theorem Own.below (h:Own c n T w g l k) (hb:Below B w w') (hg:g < B):Own c n T w' g l k:=by
 obtain ⟨cur,h1,h2⟩:=h
 exact ⟨cur,by rw [hb.block g hg]; exact h1,h2⟩
theorem Own.lt (h:Own c n T w g l k):g < w.heap.size:=by
 obtain ⟨cur,hg,_⟩:=h
 exact (Array.getElem?_eq_some_iff.1 hg).1
theorem Own.row (h:Own c n T w g l l.length):Row c n w w.heap.size (some ⟨g,0,none⟩) l:=by
 have hlt:=h.lt
 obtain ⟨cur,hg,_,hc⟩:=h
 refine .inr ⟨g,0,rfl,hlt,fun i e he j v hv=>?_⟩
 have hx:=hc i e (List.getElem?_eq_some_iff.1 he).1 he j v hv
 simp only [World.cell?,hg]
 simpa using hx
theorem Own.cell (h:Own c n T w g l k) {i:Nat} (hi:i < k) (he:l[i]?=some e) {j:Nat} {v:Value} (hv:(c e)[j]?=some v):w.cell? ⟨g,i*n+j,none⟩=some v:=by
 obtain ⟨cur,hg,_,hc⟩:=h
 have hx:=hc i e hi he j v hv
 simp only [World.cell?,hg]
 simpa using hx
theorem Own.kept (h:Own c n T w g l k) (hg:w'.heap[g]?=w.heap[g]?):Own c n T w' g l k:=by
 obtain ⟨cur,h1,h2⟩:=h
 exact ⟨cur,by rw [hg]; exact h1,h2⟩
def setArr (cur:Array Value) (o:Nat):List Value->Array Value
 | []=>cur
 | v :: r=>setArr (cur.setIfInBounds o v) (o+1) r
theorem setArr_size (vs:List Value):∀ (cur:Array Value) (o:Nat),(setArr cur o vs).size=cur.size:=by
 induction vs with
 | nil=>intros; rfl
 | cons v r ih=>intro cur o; simp [setArr,ih]
theorem setArr_off (vs:List Value):∀ (cur:Array Value) (o p:Nat),(p < o ∨ o+vs.length <= p)->(setArr cur o vs)[p]?=cur[p]?:=by
 induction vs with
 | nil=>intros; rfl
 | cons v r ih =>
  intro cur o p hp
  simp at hp
  rw [setArr,ih _ _ _ (by omega),Array.getElem?_setIfInBounds]
  simp [show o ≠ p by omega]
theorem setArr_on (vs:List Value):∀ (cur:Array Value) (o j:Nat) (v:Value),vs[j]?=some v->o+vs.length <= cur.size->(setArr cur o vs)[o+j]?=some v:=by
 induction vs with
 | nil=>intro cur o j v h; simp at h
 | cons u r ih =>
  intro cur o j v h hs
  simp at hs
  cases j with
  | zero =>
   simp at h
   subst h
   rw [setArr,setArr_off _ _ _ _ (by omega)]
   simp [Array.getElem?_setIfInBounds]
   omega
  | succ j =>
   simp at h
   rw [setArr,show o+(j+1)=o+1+j by omega]
   exact ih _ _ _ _ h (by simp; omega)
def setRow (w:World) (g o:Nat):List Value->World
 | []=>w
 | v :: r=>setRow (w.setCell ⟨g,o,none⟩ v) g (o+1) r
theorem setRow_heap (vs:List Value):∀ (w:World) (o:Nat) (cur:Array Value),w.heap[g]?=some (.cells cur T (0,0))->(setRow w g o vs).heap[g]?=some (.cells (setArr cur o vs) T (0,0)):=by
 induction vs with
 | nil=>intro w o cur h; exact h
 | cons v r ih=>intro w o cur h; exact ih _ _ _ (heap_setCell_same w g o cur _ v h)
theorem setRow_below (vs:List Value):∀ (w:World) (o:Nat),B <= g->Below B w (setRow w g o vs):=by
 induction vs with
 | nil=>intro w o h; exact Below.refl _ _
 | cons v r ih=>intro w o h; exact ((Below.refl _ _).setCell h _).trans (ih _ _ h)
theorem Own.set (hn:∀ e,(c e).length=n) (h:Own c n T w g l k) (he:l[k]?=some e):Own c n T (setRow w g (k*n) (c e)) g l (k+1):=by
 obtain ⟨cur,h1,h2,h3⟩:=h
 have hk:=(List.getElem?_eq_some_iff.1 he).1
 have hkn:k*n+n <= l.length*n:=by
  have:=Nat.mul_le_mul_right n (show k+1 <= l.length from hk)
  rw [Nat.add_mul] at this
  omega
 refine ⟨_,setRow_heap _ _ _ _ h1,by rw [setArr_size]; exact h2,fun i f hi hf j v hv=>?_⟩
 by_cases ei:i=k
 ·subst ei
  rw [he] at hf
  cases hf
  exact setArr_on _ _ _ _ _ hv (by have:=hn e; omega)
 ·have hj:=(List.getElem?_eq_some_iff.1 hv).1
  rw [hn f] at hj
  rw [setArr_off _ _ _ _ (.inl ?_)]
  ·exact h3 i f (by omega) hf j v hv
  ·have:=Nat.mul_le_mul_right n (show i+1 <= k by omega)
   rw [Nat.add_mul] at this
   omega
def bulk (f:α->Nat):List α->Nat
 | []=>0
 | x :: r=>f x+bulk f r
theorem bulk_snoc (f:α->Nat) (x:α):∀ l,bulk f (l++[x])=bulk f l+f x
 | []=>by simp [bulk]
 | y :: r=>by simp [bulk,bulk_snoc f x r]; omega
theorem bulk_take (f:α->Nat) (h:k < l.length):bulk f (l.take (k+1))=bulk f (l.take k)+f l[k]:=by
 rw [List.take_succ_eq_append_getElem h,bulk_snoc]
theorem bulk_le (f:α->Nat) {x:α} (h:x ∈ l):f x <= bulk f l:=by
 induction l with
 | nil=>cases h
 | cons y r ih =>
  simp only [bulk]
  rcases List.mem_cons.1 h with rfl | h
  ·omega
  ·have:=ih h; omega
theorem made (cz:List Value) (w:World) (l:List α) (hz:cz.length=n):Own c n T (w.alloc (.cells (madeCells cz.toArray (l.length*n)) T)) w.heap.size l 0 :=
 ⟨_,heap_alloc_new w _,size_madeCells _ _,fun i e hi=>by omega⟩
end
end Go.Proofs.YtaoefccgdfcchaaGreat.fl
namespace Go.Proofs.YtaoefccgdfcchaaGreat.fo
open ChangeShapes WideShapes ChangeAt RowKit fl
section
variable {α:Type} {c:α->List Value} {n:Nat} {T:TypeId} {w w':World} {a:Option Addr} {l:List α} {B g off k:Nat} {e:α}
def OwnO (c:α->List Value) (n:Nat) (T:TypeId) (w:World) (g off:Nat) (l:List α) (k:Nat):Prop :=
 ∃ cur,w.heap[g]?=some (.cells cur T (0,0))/\off+l.length*n <= cur.size/\∀ (i:Nat) (e:α),i < k->l[i]?=some e->∀ (j:Nat) (v:Value),(c e)[j]?=some v->cur[off+i*n+j]?=some v
theorem OwnO.at (h:OwnO c n T w g off l k) (o:Nat) (ho:o < off+l.length*n):∃ v,w.cell? ⟨g,o,none⟩=some v:=by
 obtain ⟨cur,hg,hs,_⟩:=h
 exact ⟨cur[o]'(by omega),by simp [World.cell?,hg,Array.getElem?_eq_getElem (show o < cur.size by omega)]⟩
theorem OwnO.free (h:OwnO c n T w g off l k) (o:Nat):w.frozen? ⟨g,o,none⟩=false:=by
 obtain ⟨cur,hg,_⟩:=h
 simp [World.frozen?,hg]
theorem OwnO.below (h:OwnO c n T w g off l k) (hb:Below B w w') (hg:g < B):OwnO c n T w' g off l k:=by
 obtain ⟨cur,h1,h2⟩:=h
 exact ⟨cur,by rw [hb.block g hg]; exact h1,h2⟩
theorem OwnO.kept (h:OwnO c n T w g off l k) (hg:w'.heap[g]?=w.heap[g]?):OwnO c n T w' g off l k:=by
 obtain ⟨cur,h1,h2⟩:=h
 exact ⟨cur,by rw [hg]; exact h1,h2⟩
theorem OwnO.lt (h:OwnO c n T w g off l k):g < w.heap.size:=by
 obtain ⟨cur,hg,_⟩:=h
 exact (Array.getElem?_eq_some_iff.1 hg).1
theorem OwnO.row (h:OwnO c n T w g off l l.length):Row c n w w.heap.size (some ⟨g,off,none⟩) l:=by
 have hlt:=h.lt
 obtain ⟨cur,hg,_,hc⟩:=h
 refine .inr ⟨g,off,rfl,hlt,fun i e he j v hv=>?_⟩
 have hx:=hc i e (List.getElem?_eq_some_iff.1 he).1 he j v hv
 simp only [World.cell?,hg]
 simpa using hx
theorem OwnO.any {l':List α} (h:OwnO c n T w g off l k) (hl:l'.length=l.length):OwnO c n T w g off l' 0:=by
 obtain ⟨cur,h1,h2,_⟩:=h
 exact ⟨cur,h1,by rw [hl]; exact h2,fun i e hi=>by omega⟩
theorem of_own (h:Own c n T w g l k):OwnO c n T w g 0 l k:=by
 obtain ⟨cur,h1,h2,h3⟩:=h
 exact ⟨cur,h1,by omega,fun i e hi he j v hv=>by rw [Nat.zero_add]; exact h3 i e hi he j v hv⟩
theorem set_ne {cur:Array Value} {o o':Nat} {v:Value} (h:w.heap[g]?=some (.cells cur T (0,0))) (hne:o ≠ o'):(w.setCell ⟨g,o,none⟩ v).cell? ⟨g,o',none⟩=w.cell? ⟨g,o',none⟩:=by
 have h2:=bset h o v
 simp only [World.cell?,h2,h]
 simp [hne]
theorem set_eq {cur:Array Value} {o:Nat} {v:Value} (h:w.heap[g]?=some (.cells cur T (0,0))) (ho:o < cur.size):(w.setCell ⟨g,o,none⟩ v).cell? ⟨g,o,none⟩=some v:=by
 have h2:=bset h o v
 simp only [World.cell?,h2]
 simp [ho]
theorem OwnO.put (hn:∀ e,(c e).length=n) (h:OwnO c n T w g off l k) (o:Nat) (v:Value) (ho:off+k*n <= o):OwnO c n T (w.setCell ⟨g,o,none⟩ v) g off l k:=by
 obtain ⟨cur,h1,h2,h3⟩:=h
 refine ⟨_,bset h1 o v,by rw [Array.size_setIfInBounds]; exact h2,fun i e hi he j u hu=>?_⟩
 have hj:=(List.getElem?_eq_some_iff.1 hu).1
 rw [hn e] at hj
 have hle:=Nat.mul_le_mul_right n (show i+1 <= k from hi)
 rw [Nat.add_mul] at hle
 rw [Array.getElem?_setIfInBounds,if_neg (by omega)]
 exact h3 i e hi he j u hu
theorem OwnO.more (h:OwnO c n T w g off l k) (he:l[k]?=some e) (hc:∀ (j:Nat) (v:Value),(c e)[j]?=some v->w.cell? ⟨g,off+k*n+j,none⟩=some v):OwnO c n T w g off l (k+1):=by
 obtain ⟨cur,h1,h2,h3⟩:=h
 refine ⟨cur,h1,h2,fun i f hi hf j v hv=>?_⟩
 by_cases ei:i=k
 ·subst ei
  rw [he] at hf
  cases hf
  have:=hc j v hv
  simpa [World.cell?,h1] using this
 ·exact h3 i f (by omega) hf j v hv
theorem OwnO.cells (h:OwnO c n T w g off l k):∃ cur,w.heap[g]?=some (.cells cur T (0,0))/\off+l.length*n <= cur.size:=by
 obtain ⟨cur,h1,h2,_⟩:=h
 exact ⟨cur,h1,h2⟩
theorem OwnO.drop (h:OwnO c n T w g 0 l l.length) (d:Nat) (hd:d <= l.length):OwnO c n T w g (d*n) (l.drop d) (l.drop d).length:=by
 obtain ⟨cur,h1,h2,h3⟩:=h
 refine ⟨cur,h1,?_,fun i e hi he j v hv=>?_⟩
 ·rw [List.length_drop,<- Nat.add_mul,Nat.add_sub_cancel' hd]; omega
 ·rw [List.getElem?_drop] at he
  have:=h3 (d+i) e (List.getElem?_eq_some_iff.1 he).1 he j v hv
  rw [Nat.zero_add,Nat.add_mul] at this
  exact this
def Mine (c:α->List Value) (n:Nat) (T:TypeId) (w:World) (B:Nat) (a:Option Addr) (l:List α):Prop:=l=[] ∨ ∃ g off,a=some ⟨g,off,none⟩/\B <= g/\OwnO c n T w g off l l.length
structure Tn (w w':World) (S:Nat->Prop):Prop where
 os:w'.os=w.os
 tape:w'.tape=w.tape
 output:w'.output=w.output
 size:w.heap.size <= w'.heap.size
 block:∀ k,k < w.heap.size->¬ S k->w'.heap[k]?=w.heap[k]?
theorem Tn.below {S:Nat->Prop} (h:Tn w w' S) (hs:B <= w.heap.size) (hS:∀ k,S k->B <= k):Below B w w':=⟨h.os,h.tape,h.output,h.size,fun k hk=>h.block k (by omega) (fun hk2=>by have:=hS k hk2; omega)⟩
theorem Tn.refl (w:World) (S:Nat->Prop):Tn w w S:=⟨rfl,rfl,rfl,Nat.le_refl _,fun _ _ _=>rfl⟩
theorem Tn.of (S:Nat->Prop) (h:Below w.heap.size w w'):Tn w w' S:=⟨h.os,h.tape,h.output,h.size,fun k hk _=>h.block k hk⟩
theorem Tn.trans {w'':World} {S:Nat->Prop} (h:Tn w w' S) (h2:Tn w' w'' S):Tn w w'' S:=⟨h2.os.trans h.os,h2.tape.trans h.tape,h2.output.trans h.output,Nat.le_trans h.size h2.size,fun k hk hs=>(h2.block k (Nat.lt_of_lt_of_le hk h.size) hs).trans (h.block k hk hs)⟩
theorem Tn.wide {S S':Nat->Prop} (h:Tn w w' S) (hS:∀ k,S k->S' k):Tn w w' S':=⟨h.os,h.tape,h.output,h.size,fun k hk hs=>h.block k hk (fun h2=>hs (hS k h2))⟩
theorem Tn.set {S:Nat->Prop} (h:Tn w w' S) (hS:S g) (o:Nat) (v:Value):Tn w (w'.setCell ⟨g,o,none⟩ v) S:=by
 have hb:Below 0 w' (w'.setCell ⟨g,o,none⟩ v):=(Below.refl 0 w').setCell (Nat.zero_le _) v
 exact h.trans ⟨hb.os,hb.tape,hb.output,hb.size,fun k hk hne=>RowKit.Below.heap_setCell _ _ _ _ (by intro e; exact hne (by rw [e]; exact hS))⟩
theorem Mine.row (h:Mine c n T w B a l):Row c n w w.heap.size a l:=by
 rcases h with h | ⟨g,off,rfl,_,h⟩
 ·exact .inl h
 ·exact h.row
def blk (a:Option Addr) (l:List α):Nat->Prop:=fun k=>l ≠ []/\∃ g off,a=some ⟨g,off,none⟩/\k=g
theorem Mine.kept {S:Nat->Prop} (h:Mine c n T w B a l) (ht:Tn w w' S) (hS:∀ k,blk a l k->¬ S k):Mine c n T w' B a l:=by
 rcases h with h | ⟨g,off,rfl,hB,h⟩
 ·exact .inl h
 ·by_cases e:l=[]
  ·exact .inl e
  ·exact .inr ⟨g,off,rfl,hB,h.kept (ht.block g h.lt (hS g ⟨e,g,off,rfl,rfl⟩))⟩
theorem Mine.below (h:Mine c n T w B a l) (hb:Below w.heap.size w w'):Mine c n T w' B a l:=h.kept (Tn.of (fun _=>False) hb) (fun _ _ h=>h)
theorem Mine.blk_le (h:Mine c n T w B a l) {k:Nat} (hk:blk a l k):B <= k/\k < w.heap.size:=by
 obtain ⟨hl,g,off,ha,rfl⟩:=hk
 rcases h with h | ⟨g',off',ha',hB,h⟩
 ·exact absurd h hl
 ·rw [ha'] at ha; cases ha; exact ⟨hB,h.lt⟩
end
end Go.Proofs.YtaoefccgdfcchaaGreat.fo
namespace Go.Proofs.YtaoefccgdfcchaaGreat.fp
open ChangeShapes WideShapes ChangeAt RowKit fl fo
section
variable {α:Type} {c:α->List Value} {n:Nat} {T:TypeId} {w w':World} {l:List α} {g off k j:Nat} {e:α}
structure Pt (c:α->List Value) (n:Nat) (T:TypeId) (w:World) (g off:Nat) (l:List α) (k:Nat) (e:α) (j:Nat):Prop where
 own:OwnO c n T w g off l k
 part:∀ (i:Nat) (v:Value),i < j->(c e)[i]?=some v->w.cell? ⟨g,off+k*n+i,none⟩=some v
theorem Pt.zero (h:OwnO c n T w g off l k) (e:α):Pt c n T w g off l k e 0:=⟨h,fun i v hi=>by omega⟩
theorem Pt.put (hn:∀ e,(c e).length=n) (h:Pt c n T w g off l k e j) (he:l[k]?=some e) {v:Value} (hv:(c e)[j]?=some v):Pt c n T (w.setCell ⟨g,off+k*n+j,none⟩ v) g off l k e (j+1):=by
 have hk:=(List.getElem?_eq_some_iff.1 he).1
 have hj:=(List.getElem?_eq_some_iff.1 hv).1
 rw [hn e] at hj
 obtain ⟨cur,h1,h2⟩:=h.own.cells
 have hle:=Nat.mul_le_mul_right n (show k+1 <= l.length from hk)
 rw [Nat.add_mul] at hle
 refine ⟨h.own.put hn _ v (by omega),fun i u hi hu=>?_⟩
 by_cases ei:i=j
 ·subst ei
  rw [hv] at hu
  cases hu
  exact set_eq h1 (by omega)
 ·rw [set_ne h1 (by omega)]
  exact h.part i u (by omega) hu
theorem Pt.below (h:Pt c n T w g off l k e j) (hb:Below w.heap.size w w'):Pt c n T w' g off l k e j :=
 ⟨h.own.below hb h.own.lt,fun i v hi hv=>(hb.cell (p:=⟨g,_,none⟩) h.own.lt).trans (h.part i v hi hv)⟩
theorem Pt.done (hn:∀ e,(c e).length=n) (h:Pt c n T w g off l k e n) (he:l[k]?=some e):OwnO c n T w g off l (k+1) :=
 h.own.more he fun j v hv=>h.part j v (by have:=(List.getElem?_eq_some_iff.1 hv).1; rw [hn e] at this; exact this) hv
end
end Go.Proofs.YtaoefccgdfcchaaGreat.fp
namespace Go.Proofs.YtaoefccgdfcchaaGreat.flM
open ChangeShapes WideShapes ChangeAt RowKit fl
structure Ms where
 q:Int
 x:ByteArray
 k:ByteArray
 b:ByteArray
 a:Bool
def c (e:Ms):List Value:=[.int .i64 e.q,.string e.x,.string e.k,.string e.b,.bool e.a]
theorem c_len (e:Ms):(c e).length=5:=rfl
def ok (e:Ms):Prop:=e.x.size <= maxLen/\e.k.size <= maxLen/\e.b.size <= maxLen
def wt (e:Ms):Nat:=e.x.size+e.k.size+e.b.size
theorem sz_one (e:Ms) (left:Int) (w:World) (h0:-1 <= left) (h1:left <= 1048576) (hx:ok e) :
  Calls Tryz.prog 134 #[.agg #[.int .i64 e.q,.string e.x,.string e.k,.string e.b,.bool e.a],.int .i64 left] w fun r w'=>r=.returned (.int .i64 (if left - (wt e:Int) < 0 then -1 else left - (wt e:Int)))/\Below w.heap.size w w':=by
 obtain ⟨fq,fx,fk,fb,fa⟩:=e
 obtain ⟨hx0,hx1,hx2⟩:=hx
 have hx0:fx.size <= 9223372036854775807:=hx0
 have hx1:fk.size <= 9223372036854775807:=hx1
 have hx2:fb.size <= 9223372036854775807:=hx2
 unfold wt
 by_cases g0:left - (fx.size:Int) < 0
 ·rw [if_pos (by show left - ((fx.size+fk.size+fb.size:Nat):Int) < 0; omega)]
  go_enter Tryz.func134,Tryz.ntmps134
  go_wp2
  go_ret
  exact ⟨rfl,(Below.refl _ _).alloc (Nat.le_refl _) _⟩
 by_cases g1:left - (fx.size:Int) - (fk.size:Int) < 0
 ·rw [if_pos (by show left - ((fx.size+fk.size+fb.size:Nat):Int) < 0; omega)]
  go_enter Tryz.func134,Tryz.ntmps134
  go_wp2
  go_ret
  exact ⟨rfl,(Below.refl _ _).alloc (Nat.le_refl _) _⟩
 by_cases g2:left - (fx.size:Int) - (fk.size:Int) - (fb.size:Int) < 0
 ·rw [if_pos (by show left - ((fx.size+fk.size+fb.size:Nat):Int) < 0; omega)]
  go_enter Tryz.func134,Tryz.ntmps134
  go_wp2
  go_ret
  exact ⟨rfl,(Below.refl _ _).alloc (Nat.le_refl _) _⟩
 have he:left - ((fx.size+fk.size+fb.size:Nat):Int)=left - (fx.size:Int) - (fk.size:Int) - (fb.size:Int):=by omega
 rw [if_neg (by show ¬ left - ((fx.size+fk.size+fb.size:Nat):Int) < 0; omega)]
 show Calls _ _ _ _ fun r w'=>r=.returned (.int .i64 (left - ((fx.size+fk.size+fb.size:Nat):Int)))/\_
 rw [he]
 go_enter Tryz.func134,Tryz.ntmps134
 go_wp2
 go_ret
 exact ⟨rfl,(Below.refl _ _).alloc (Nat.le_refl _) _⟩
theorem sz_all (l:List Ms) (a:Option Addr) (cap:Nat) (left:Int) (w:World) (hl:l.length <= maxLen) (hx:∀ e ∈ l,ok e) (h0:-1 <= left) (h1:left <= 1048576) (hS:Row c 5 w w.heap.size a l) :
  Calls Tryz.prog 87 #[.slice a l.length cap,.int .i64 left] w fun e w'=>∃ r:Int,e=.returned (.int .i64 r)/\(0 <= r->r=left - l.length - bulk wt l)/\-1 <= r/\r <= 1048576/\Below w.heap.size w w':=by
 have hl':=hl
 unfold maxLen at hl'
 by_cases hneg:left - l.length < 0
 ·go_enter Tryz.func87,Tryz.ntmps87
  go_wp2
  go_ret
  exact ⟨-1,rfl,by omega,by omega,by omega,Below.refl _ _⟩
 rcases hS with rfl | ⟨b,off,rfl,hlt,hc⟩
 ·go_enter Tryz.func87,Tryz.ntmps87
  go_wp2
  refine wp_loop_rounds 1 ?_
  rw [rounds_succ]
  go_wp2
  go_ret
  exact ⟨_,rfl,fun _=>by simp [bulk],by simp at hneg; omega,by simp at hneg; omega,Below.refl _ _⟩
 ·have HC:Hid (∀ (i:Nat) (e:Ms),l[i]?=some e->∀ (j:Nat) (v:Value),(c e)[j]?=some v->w.cell? ⟨b,off+i*5+j,none⟩=some v):=hc
  have HX:Hid (∀ e ∈ l,ok e):=hx
  clear hc hx
  go_enter Tryz.func87,Tryz.ntmps87
  go_wp2
  go_loopw [1,5] (fun y x wr=>∃ k:Nat,k <= l.length/\x=.int .i64 k/\y=.int .i64 (left - l.length - bulk wt (l.take k))/\0 <= left - l.length - bulk wt (l.take k)/\Below w.heap.size w wr) (fun _ x _=>l.length - (intOf x).toNat)
  case atStart=>exact ⟨0,Nat.zero_le _,rfl,by simp [bulk],by simp [bulk]; omega,Below.refl _ _⟩
  case round =>
   obtain ⟨k,hk,rfl,rfl,hr0,hbel⟩:=hrel
   have hbs:=hbel.size
   by_cases hkl:k < l.length
   ·have HG:Hid (l[k]?=some l[k]):=List.getElem?_eq_getElem hkl
    have hxs:=HX.out l[k] (List.getElem_mem hkl)
    have HBK:Hid (bulk wt (l.take (k+1))=bulk wt (l.take k)+wt l[k]):=bulk_take wt hkl
    obtain ⟨⟨fq,fx,fk,fb,fa⟩,he⟩:∃ e,l[k]=e:=⟨_,rfl⟩
    rw [he] at hxs HBK HG
    have c0:wr.cell? ⟨b,off+k*5,none⟩=some (.int .i64 fq):=(hbel.cell (p:=⟨b,off+k*5,none⟩) hlt).trans (HC.out k _ HG.out 0 _ rfl)
    have c1:wr.cell? ⟨b,off+k*5+1,none⟩=some (.string fx):=(hbel.cell (p:=⟨b,off+k*5+1,none⟩) hlt).trans (HC.out k _ HG.out 1 _ rfl)
    have c2:wr.cell? ⟨b,off+k*5+2,none⟩=some (.string fk):=(hbel.cell (p:=⟨b,off+k*5+2,none⟩) hlt).trans (HC.out k _ HG.out 2 _ rfl)
    have c3:wr.cell? ⟨b,off+k*5+3,none⟩=some (.string fb):=(hbel.cell (p:=⟨b,off+k*5+3,none⟩) hlt).trans (HC.out k _ HG.out 3 _ rfl)
    have c4:wr.cell? ⟨b,off+k*5+4,none⟩=some (.bool fa):=(hbel.cell (p:=⟨b,off+k*5+4,none⟩) hlt).trans (HC.out k _ HG.out 4 _ rfl)
    obtain ⟨m,hm⟩:∃ m,bulk wt (l.take k)=m:=⟨_,rfl⟩
    rw [hm] at HBK hr0 ⊢
    have hone:=sz_one ⟨fq,fx,fk,fb,fa⟩ (left - l.length - m) wr (by omega) (by omega) hxs
    obtain ⟨wv,hwt⟩:∃ wv,wt ⟨fq,fx,fk,fb,fa⟩=wv:=⟨_,rfl⟩
    rw [hwt] at hone HBK
    clear hm he hwt hxs
    by_cases hlo:left - l.length - m - wv < 0
    ·rw [if_pos hlo] at hone
     go_wp2_with (go_at_call 134; refine hone.mono ?_; rintro e w1 ⟨rfl,hb1⟩)
     go_ret
     exact ⟨-1,rfl,by omega,by omega,by omega,hbel.trans (hb1.mono hbs)⟩
    ·rw [if_neg hlo] at hone
     go_wp2_with (go_at_call 134; refine hone.mono ?_; rintro e w1 ⟨rfl,hb1⟩)
     go_roundw
     case rel=>exact ⟨k+1,by omega,by go_num,by rw [HBK.out]; congr 1; omega,by rw [HBK.out]; omega,hbel.trans (hb1.mono hbs)⟩
     case measure=>simp [intOf]; omega
   ·obtain rfl:k=l.length:=by omega
    rw [List.take_length] at hr0 ⊢
    go_wp2
    go_ret
    exact ⟨_,rfl,fun _=>rfl,by omega,by omega,hbel⟩
theorem to_one (e:Ms) (w:World):Calls Tryz.prog 138 #[.agg #[.int .i64 e.q,.string e.x,.string e.k,.string e.b,.bool e.a]] w fun r w'=>r=.returned (.agg #[.int .i64 e.q,.string e.x,.string e.k,.string e.b,.bool e.a])/\Below w.heap.size w w':=by
 obtain ⟨fq,fx,fk,fb,fa⟩:=e
 go_enter Tryz.func138,Tryz.ntmps138
 go_wp2
 refine bodyPost_ret (v:=.agg #[.int .i64 fq,.string fx,.string fk,.string fb,.bool fa]) (by simp [results,Tryz.results138,go_sem]) rfl ⟨rfl,?_⟩
 repeat (first | exact Below.refl _ _ | refine Below.setCell ?_ ?_ _ | refine Below.alloc ?_ ?_ _)
 all_goals (simp; try omega)
theorem own_set {T:TypeId} {w:World} {g k:Nat} {l:List Ms} (fq:Int) (fx:ByteArray) (fk:ByteArray) (fb:ByteArray) (fa:Bool) (h:Own c 5 T w g l k) (he:l[k]?=some ⟨fq,fx,fk,fb,fa⟩):Own c 5 T (((((w.setCell ⟨g,k*5,none⟩ (.int .i64 fq)).setCell ⟨g,k*5+1,none⟩ (.string fx)).setCell ⟨g,k*5+2,none⟩ (.string fk)).setCell ⟨g,k*5+3,none⟩ (.string fb)).setCell ⟨g,k*5+4,none⟩ (.bool fa)) g l (k+1):=by
 have:=Own.set c_len h he
 simpa only [setRow,c,Nat.add_assoc,Nat.reduceAdd] using this
theorem info:(Tryz.prog.info? 129).map (fun i=>(i.zero,i.size,i.bytes))=some (some (.agg #[.int .i64 0,.string ByteArray.empty,.string ByteArray.empty,.string ByteArray.empty,.bool false]),5,64):=by kernel_rfl
theorem to_all (l:List Ms) (a:Option Addr) (cap:Nat) (w:World) (hl:l.length <= 1048576) (hS:Row c 5 w w.heap.size a l) :
  Calls Tryz.prog 100 #[.slice a l.length cap] w fun e w'=>e=.returned (.slice (some ⟨w.heap.size,0,none⟩) l.length l.length)/\Own c 5 129 w' w.heap.size l l.length/\Below w.heap.size w w':=by
 obtain ⟨i0,hi,hz0,hz1,hz2⟩:∃ i0,Tryz.prog.info? 129=some i0/\i0.zero=some (.agg #[.int .i64 0,.string ByteArray.empty,.string ByteArray.empty,.string ByteArray.empty,.bool false])/\i0.size=5/\i0.bytes=64:=by
  have h:=info
  cases hh:Tryz.prog.info? 129 with
  | none=>rw [hh] at h; cases h
  | some i=>rw [hh] at h; simp at h; exact ⟨i,rfl,h.1,h.2.1,h.2.2⟩
 have hmk:=run_makeSlice (P:=Tryz.prog) w 55 129 i0 _ Tryz.underlying55 hi hz0 .i64 .i64 (l.length:Int) (l.length:Int) (by omega) (Int.le_refl _) (by rw [hz1]; simp; omega) (by rw [hz2]; omega) (by omega)
 rw [hz1,show ((l.length:Int)).toNat=l.length by omega] at hmk
 have hmk2:(Instr.makeSlice 55 (.int .i64 (l.length:Int)) (.int .i64 (l.length:Int))).run Tryz.prog w=.ok (.slice (some ⟨w.heap.size,0,none⟩) l.length l.length) (w.alloc (.cells (madeCells #[.int .i64 0,.string ByteArray.empty,.string ByteArray.empty,.string ByteArray.empty,.bool false] (l.length*5)) 129)):=hmk
 have hf0:Own c 5 129 (w.alloc (.cells (madeCells #[.int .i64 0,.string ByteArray.empty,.string ByteArray.empty,.string ByteArray.empty,.bool false] (l.length*5)) 129)) w.heap.size l 0:=made #[.int .i64 0,.string ByteArray.empty,.string ByteArray.empty,.string ByteArray.empty,.bool false].toList w l rfl
 have hb0:=fl.bl w (.cells (madeCells #[.int .i64 0,.string ByteArray.empty,.string ByteArray.empty,.string ByteArray.empty,.bool false] (l.length*5)) 129)
 obtain ⟨W,hW⟩:∃ W,w.alloc (.cells (madeCells #[.int .i64 0,.string ByteArray.empty,.string ByteArray.empty,.string ByteArray.empty,.bool false] (l.length*5)) 129)=W:=⟨_,rfl⟩
 rw [hW] at hmk2 hf0 hb0
 have HF0:Hid (Own c 5 129 W w.heap.size l 0):=hf0
 clear hmk hW hf0
 rcases hS with rfl | ⟨b,off,rfl,hlt,hc⟩
 ·have hmk3:(Instr.makeSlice 55 (.int .i64 0) (.int .i64 0)).run Tryz.prog w=.ok (.slice (some ⟨w.heap.size,0,none⟩) 0 0) W:=by simpa using hmk2
  clear hmk2
  go_enter Tryz.func100,Tryz.ntmps100
  go_wp2
  refine wp_loop_rounds 1 ?_
  rw [rounds_succ]
  go_wp2
  go_ret
  exact ⟨rfl,HF0.out,hb0⟩
 ·have HC:Hid (∀ (i:Nat) (e:Ms),l[i]?=some e->∀ (j:Nat) (v:Value),(c e)[j]?=some v->w.cell? ⟨b,off+i*5+j,none⟩=some v):=hc
  clear hc
  go_enter Tryz.func100,Tryz.ntmps100
  go_wp2
  go_loopw [4] (fun x wr=>∃ k:Nat,k <= l.length/\x=.int .i64 k/\Below w.heap.size w wr/\Hid (Own c 5 129 wr w.heap.size l k)) (fun x _=>l.length - (intOf x).toNat)
  case atStart=>exact ⟨0,Nat.zero_le _,rfl,hb0,HF0⟩
  case round =>
   obtain ⟨k,hk,rfl,hbel,hf⟩:=hrel
   have hbs:=hbel.size
   by_cases hkl:k < l.length
   ·have HG:Hid (l[k]?=some l[k]):=List.getElem?_eq_getElem hkl
    obtain ⟨⟨fq,fx,fk,fb,fa⟩,he⟩:∃ e,l[k]=e:=⟨_,rfl⟩
    rw [he] at HG
    have c0:wr.cell? ⟨b,off+k*5,none⟩=some (.int .i64 fq):=(hbel.cell (p:=⟨b,off+k*5,none⟩) hlt).trans (HC.out k _ HG.out 0 _ rfl)
    have c1:wr.cell? ⟨b,off+k*5+1,none⟩=some (.string fx):=(hbel.cell (p:=⟨b,off+k*5+1,none⟩) hlt).trans (HC.out k _ HG.out 1 _ rfl)
    have c2:wr.cell? ⟨b,off+k*5+2,none⟩=some (.string fk):=(hbel.cell (p:=⟨b,off+k*5+2,none⟩) hlt).trans (HC.out k _ HG.out 2 _ rfl)
    have c3:wr.cell? ⟨b,off+k*5+3,none⟩=some (.string fb):=(hbel.cell (p:=⟨b,off+k*5+3,none⟩) hlt).trans (HC.out k _ HG.out 3 _ rfl)
    have c4:wr.cell? ⟨b,off+k*5+4,none⟩=some (.bool fa):=(hbel.cell (p:=⟨b,off+k*5+4,none⟩) hlt).trans (HC.out k _ HG.out 4 _ rfl)
    have hone:=to_one ⟨fq,fx,fk,fb,fa⟩ wr
    have hfl:=hf.out.lt
    clear he
    go_wp2_with (go_at_call 138; refine hone.mono ?_; rintro e w1 ⟨rfl,hb1⟩; have hf1:=hf.out.below hb1 hfl; obtain ⟨v0,g0⟩:=hf1.at (k*5) (by omega); have z0:=hf1.free (k*5); obtain ⟨v1,g1⟩:=hf1.at (k*5+1) (by omega); have z1:=hf1.free (k*5+1); obtain ⟨v2,g2⟩:=hf1.at (k*5+2) (by omega); have z2:=hf1.free (k*5+2); obtain ⟨v3,g3⟩:=hf1.at (k*5+3) (by omega); have z3:=hf1.free (k*5+3); obtain ⟨v4,g4⟩:=hf1.at (k*5+4) (by omega); have z4:=hf1.free (k*5+4); have HN:Hid (Own c 5 129 (((((w1.setCell ⟨w.heap.size,k*5,none⟩ (.int .i64 fq)).setCell ⟨w.heap.size,k*5+1,none⟩ (.string fx)).setCell ⟨w.heap.size,k*5+2,none⟩ (.string fk)).setCell ⟨w.heap.size,k*5+3,none⟩ (.string fb)).setCell ⟨w.heap.size,k*5+4,none⟩ (.bool fa)) w.heap.size l (k+1)):=own_set fq fx fk fb fa hf1 HG.out; clear hf1)
    go_roundw
    case rel=>exact ⟨k+1,by omega,by go_num,((((((hbel.trans (hb1.mono hbs)).setCell (Nat.le_refl _) _).setCell (Nat.le_refl _) _).setCell (Nat.le_refl _) _).setCell (Nat.le_refl _) _).setCell (Nat.le_refl _) _),HN⟩
    case measure=>simp [intOf]; omega
   ·obtain rfl:k=l.length:=by omega
    go_wp2
    go_ret
    exact ⟨rfl,hf.out,hbel⟩
theorem eq_one (e:Ms) (w:World):Calls Tryz.prog 153 #[.agg #[.int .i64 e.q,.string e.x,.string e.k,.string e.b,.bool e.a],.agg #[.int .i64 e.q,.string e.x,.string e.k,.string e.b,.bool e.a]] w fun r w'=>r=.returned (.bool true)/\Below w.heap.size w w':=by
 obtain ⟨fq,fx,fk,fb,fa⟩:=e
 go_enter Tryz.func153,Tryz.ntmps153
 go_wp2
 go_ret
 exact ⟨rfl,((Below.refl _ _).alloc (Nat.le_refl _) _).alloc (by simp) _⟩
theorem eq_all (l:List Ms) (a a':Option Addr) (ca ca':Nat) (w:World) (hl:l.length <= maxLen) (ha:Row c 5 w w.heap.size a l) (hb:Row c 5 w w.heap.size a' l) :
  Calls Tryz.prog 130 #[.slice a l.length ca,.slice a' l.length ca'] w fun e w'=>e=.returned (.bool true)/\Below w.heap.size w w':=by
 have hl':=hl
 unfold maxLen at hl'
 have nilw:∀ a a':Option Addr,Calls Tryz.prog 130 #[.slice a 0 ca,.slice a' 0 ca'] w fun e w'=>e=.returned (.bool true)/\Below w.heap.size w w':=fun a a'=>by
  go_enter Tryz.func130,Tryz.ntmps130
  go_wp2
  refine wp_loop_rounds 1 ?_
  rw [rounds_succ]
  go_wp2
  go_ret
  exact ⟨rfl,Below.refl _ _⟩
 rcases ha with rfl | ⟨b,off,rfl,hlt,hc⟩
 ·exact nilw a a'
 rcases hb with rfl | ⟨b',off_,rfl,hlt',hc'⟩
 ·exact nilw _ _
 ·have HA:Hid (∀ (i:Nat) (e:Ms),l[i]?=some e->∀ (j:Nat) (v:Value),(c e)[j]?=some v->w.cell? ⟨b,off+i*5+j,none⟩=some v):=hc
  have HB:Hid (∀ (i:Nat) (e:Ms),l[i]?=some e->∀ (j:Nat) (v:Value),(c e)[j]?=some v->w.cell? ⟨b',off_+i*5+j,none⟩=some v):=hc'
  clear hc hc' nilw
  go_enter Tryz.func130,Tryz.ntmps130
  go_wp2
  go_loopw [5] (fun x wr=>∃ k:Nat,k <= l.length/\x=.int .i64 k/\Below w.heap.size w wr) (fun x _=>l.length - (intOf x).toNat)
  case atStart=>exact ⟨0,Nat.zero_le _,rfl,Below.refl _ _⟩
  case round =>
   obtain ⟨k,hk,rfl,hbel⟩:=hrel
   have hbs:=hbel.size
   by_cases hkl:k < l.length
   ·have HG:Hid (l[k]?=some l[k]):=List.getElem?_eq_getElem hkl
    obtain ⟨⟨fq,fx,fk,fb,fa⟩,he⟩:∃ e,l[k]=e:=⟨_,rfl⟩
    rw [he] at HG
    have a0:wr.cell? ⟨b,off+k*5,none⟩=some (.int .i64 fq):=(hbel.cell (p:=⟨b,off+k*5,none⟩) hlt).trans (HA.out k _ HG.out 0 _ rfl)
    have b0:wr.cell? ⟨b',off_+k*5,none⟩=some (.int .i64 fq):=(hbel.cell (p:=⟨b',off_+k*5,none⟩) hlt').trans (HB.out k _ HG.out 0 _ rfl)
    have a1:wr.cell? ⟨b,off+k*5+1,none⟩=some (.string fx):=(hbel.cell (p:=⟨b,off+k*5+1,none⟩) hlt).trans (HA.out k _ HG.out 1 _ rfl)
    have b1:wr.cell? ⟨b',off_+k*5+1,none⟩=some (.string fx):=(hbel.cell (p:=⟨b',off_+k*5+1,none⟩) hlt').trans (HB.out k _ HG.out 1 _ rfl)
    have a2:wr.cell? ⟨b,off+k*5+2,none⟩=some (.string fk):=(hbel.cell (p:=⟨b,off+k*5+2,none⟩) hlt).trans (HA.out k _ HG.out 2 _ rfl)
    have b2:wr.cell? ⟨b',off_+k*5+2,none⟩=some (.string fk):=(hbel.cell (p:=⟨b',off_+k*5+2,none⟩) hlt').trans (HB.out k _ HG.out 2 _ rfl)
    have a3:wr.cell? ⟨b,off+k*5+3,none⟩=some (.string fb):=(hbel.cell (p:=⟨b,off+k*5+3,none⟩) hlt).trans (HA.out k _ HG.out 3 _ rfl)
    have b3:wr.cell? ⟨b',off_+k*5+3,none⟩=some (.string fb):=(hbel.cell (p:=⟨b',off_+k*5+3,none⟩) hlt').trans (HB.out k _ HG.out 3 _ rfl)
    have a4:wr.cell? ⟨b,off+k*5+4,none⟩=some (.bool fa):=(hbel.cell (p:=⟨b,off+k*5+4,none⟩) hlt).trans (HA.out k _ HG.out 4 _ rfl)
    have b4:wr.cell? ⟨b',off_+k*5+4,none⟩=some (.bool fa):=(hbel.cell (p:=⟨b',off_+k*5+4,none⟩) hlt').trans (HB.out k _ HG.out 4 _ rfl)
    have hone:=eq_one ⟨fq,fx,fk,fb,fa⟩ wr.drew
    have i2:(k:Int) < (l.length:Int):=by omega
    clear he
    go_wp2
    go_region_with (go_at_call 153; refine hone.mono ?_; rintro e w1 ⟨rfl,hb1⟩)
    all_goals go_wp2
    all_goals go_roundw
    all_goals first | exact ⟨k+1,by omega,by go_num,hbel.drew.trans (hb1.mono hbs)⟩ | (simp [intOf]; omega)
   ·obtain rfl:k=l.length:=by omega
    go_wp2
    go_ret
    exact ⟨rfl,hbel⟩
end Go.Proofs.YtaoefccgdfcchaaGreat.flM
namespace Go.Proofs.YtaoefccgdfcchaaGreat.sm
open ChangeShapes WideShapes ChangeAt RowKit
def mt (k:Nat):ByteArray:=⟨(109 :: Lib.decDigits k).toArray⟩
def pre (a:Nat):List UInt8:=if a=0 then [] else Lib.decDigits a
theorem pre_step {a:Nat} (h:a ≠ 0):pre a=pre (a / 10)++[UInt8.ofNat (48+a % 10)]:=by
 unfold pre
 rw [if_neg h,Lib.decDigits]
 by_cases h10:a < 10
 ·rw [dif_pos h10,if_pos (by omega),Nat.mod_eq_of_lt h10]; rfl
 ·rw [dif_neg h10,if_neg (by omega)]
theorem digits_le:∀ (k u:Nat),u < 10 ^ (k+1)->(Lib.decDigits u).length <= k+1
 | 0,u,h=>by rw [Lib.decDigits,dif_pos (by omega)]; simp
 | k+1,u,h=>by
  rw [Lib.decDigits]
  by_cases h10:u < 10
  ·rw [dif_pos h10]; simp
  ·rw [dif_neg h10]
   have:=digits_le k (u / 10) (by rw [Nat.pow_succ] at h; omega)
   simp
   omega
theorem conv_one (wr:World) (v:Int):(convert 167 9 (Value.slice (some { block:=wr.heap.size,off:=0 }) 1 1)).run Tryz.prog (wr.alloc (.cells #[.int .u8 v] 5))=.ok (.string (strOfNums [v])) (wr.alloc (.cells #[.int .u8 v] 5)) :=
 run_convert_bytes_arg (P:=Tryz.prog) _ 167 5 Tryz.underlying167 Tryz.underlying5 _ 0 1 1 [v] rfl (fun i hi=>by
  obtain rfl:i=0:=by omega
  simp) 9 Tryz.underlying9
theorem mark_text (n:Nat) (w:World) (hn:n <= 9000000000000000000) (h0:1 <= n) :
  Calls Tryz.prog 74 #[.int .i64 n] w fun e w'=>e=.returned (.string (mt n))/\Below w.heap.size w w':=by
 have hD:Hid ((Lib.decDigits n).length <= 20):=digits_le 19 n (by omega)
 go_enter Tryz.func74,Tryz.ntmps74
 go_wp2
 go_loopw [0,3] (fun m o wr=>∃ (a:Nat) (l:List UInt8),a <= n/\m=.int .i64 a/\o=.string ⟨l.toArray⟩/\Hid (pre a++l=Lib.decDigits n)/\Below w.heap.size w wr) (fun m _ _=>(intOf m).toNat)
 case atStart=>exact ⟨n,[],Nat.le_refl _,rfl,rfl,by unfold Hid; simp [pre]; omega,Below.refl _ _⟩
 case round =>
  obtain ⟨a,l,ha,rfl,rfl,hl,hbel⟩:=hrel
  have hls:l.length <= 20:=by
   have h1:=congrArg List.length hl.out
   have h2:=hD.out
   simp at h1
   omega
  by_cases haz:a=0
  ·subst haz
   have hll:l=Lib.decDigits n:=by simpa [Hid,pre] using hl
   subst hll
   go_wp2
   go_ret
   exact ⟨congrArg (fun s=>Ending.returned (Value.string s)) (ByteArray.ext (by simp [mt])),hbel⟩
  ·have hc:=fun v=>conv_one wr v
   have h1:∀ v,(strOfNums [v]).size=1:=fun v=>strOfNums_size [v]
   have hp:(0:Int) < (a:Int):=by omega
   go_wp2
   go_roundw
   case rel =>
    refine ⟨a / 10,UInt8.ofNat (48+a % 10) :: l,by omega,by go_num,?_,by unfold Hid; rw [<- hl.out,pre_step haz]; simp,hbel.alloc (by have:=hbel.size; omega) _⟩
    refine congrArg Value.string (ByteArray.ext ?_)
    have e:(48+(a:Int) % 10).toNat=48+a % 10:=by omega
    simp [strOfNums,e]
   case measure=>simp [intOf]; omega
end Go.Proofs.YtaoefccgdfcchaaGreat.sm
