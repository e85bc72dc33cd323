/- SpecCopyC. -/
import Derived.Test.YtaoefccgdfcchaaGreatKq25
import Derived.Test.YtaoefccgdfcchaaGreatKq28
import Derived.Test.YtaoefccgdfcchaaGreatKq29
set_option maxRecDepth 100000
set_option maxHeartbeats 8000000
set_option linter.unusedVariables false
namespace Go.Proofs.YtaoefccgdfcchaaGreat.scc
open ChangeShapes WideShapes ChangeAt RowKit fl rr co
theorem grow_qu {W:World} {B a:Nat} {v:Value} {l:List qu.E} (m:qu.E) (h:W.ownsRow B 58 4 v l.length (l.flatMap qu.c)) (hB:B <= W.heap.size) (hl:l.length <= 1048576) (hc:W.heap[a]?=some (.cells (qu.c m).toArray 58 (0,0))) (t:TypeId) :
  ∃ v' w',(Builtin.append_ #[35,35] t #[v,.slice (some ⟨a,0,none⟩) 1 1]).run Tryz.prog W=.ok v' w'/\w'.ownsRow B 58 4 v' (l++[m]).length ((l++[m]).flatMap qu.c)/\W.grownBy w' v.ownBlock:=by
 obtain ⟨i0,hi,hz0,hz1,hz2⟩:=qu.infoA
 have hnews:∀ j u,(qu.c m)[j]?=some u->W.cell? ((⟨a,0,none⟩:Addr).add j)=some u:=fun j u hu=>by
  rw [qu.add0]
  exact bcell hc (by simpa using hu)
 have h1:∀ u ∈ qu.c m,u.oneCell'=true:=fun u hu=>by simp [qu.c] at hu; rcases hu with rfl | rfl | rfl | rfl <;> rfl
 have hfl:(l++[m]).flatMap qu.c=l.flatMap qu.c++qu.c m:=by rw [List.flatMap_append]; simp
 have hln:(l++[m]).length=l.length+1:=by simp
 obtain ⟨v',w',hr,ho,hg,_,_⟩:=run_append_own_at (P:=Tryz.prog) W B 35 t 58 i0 (.agg #[.string ByteArray.empty,.int .i64 0,.slice none 0 0,.slice none 0 0]) 4 72 Tryz.underlying35 hi hz0 hz1 hz2 rfl (by decide) v l.length _ h ⟨a,0,none⟩ 1 1 (qu.c m) rfl hnews h1 (by unfold maxLen; omega) (by omega) hB
 exact ⟨v',w',hr,by rw [hfl,hln]; exact ho,hg⟩
def Mqu (W:World) (B:Nat) (r:qu.E):Prop:=∃ g h,r.ra=some ⟨g,0,none⟩/\r.ha=some ⟨h,0,none⟩/\W.ownsRow B 129 5 (.slice (some ⟨g,0,none⟩) r.rs.length r.rc) r.rs.length (r.rs.flatMap flM.c)/\W.ownsRow B 131 7 (.slice (some ⟨h,0,none⟩) r.hs.length r.hc) r.hs.length (r.hs.flatMap flH.c)
theorem Mqu.keep {W W':World} {B:Nat} {r:qu.E} (m:Mqu W B r) (hk:∀ (B n q:Nat) (T:TypeId) (v:Value) (xs:List Value),W.ownsRow B T n v q xs->T ≠ 58->T ≠ 54->T ≠ 38->W'.ownsRow B T n v q xs):Mqu W' B r:=by
 obtain ⟨g,h,h1,h2,h3,h4⟩:=m
 exact ⟨g,h,h1,h2,hk _ _ _ _ _ _ h3 (by decide) (by decide) (by decide),hk _ _ _ _ _ _ h4 (by decide) (by decide) (by decide)⟩
theorem grow_su {W:World} {B a:Nat} {v:Value} {l:List su.E} (m:su.E) (h:W.ownsRow B 54 5 v l.length (l.flatMap su.c)) (hB:B <= W.heap.size) (hl:l.length <= 1048576) (hc:W.heap[a]?=some (.cells (su.c m).toArray 54 (0,0))) (t:TypeId) :
  ∃ v' w',(Builtin.append_ #[36,36] t #[v,.slice (some ⟨a,0,none⟩) 1 1]).run Tryz.prog W=.ok v' w'/\w'.ownsRow B 54 5 v' (l++[m]).length ((l++[m]).flatMap su.c)/\W.grownBy w' v.ownBlock:=by
 obtain ⟨i0,hi,hz0,hz1,hz2⟩:=su.infoA
 have hnews:∀ j u,(su.c m)[j]?=some u->W.cell? ((⟨a,0,none⟩:Addr).add j)=some u:=fun j u hu=>by
  rw [su.add0]
  exact bcell hc (by simpa using hu)
 have h1:∀ u ∈ su.c m,u.oneCell'=true:=fun u hu=>by simp [su.c] at hu; rcases hu with rfl | rfl | rfl | rfl | rfl <;> rfl
 have hfl:(l++[m]).flatMap su.c=l.flatMap su.c++su.c m:=by rw [List.flatMap_append]; simp
 have hln:(l++[m]).length=l.length+1:=by simp
 obtain ⟨v',w',hr,ho,hg,_,_⟩:=run_append_own_at (P:=Tryz.prog) W B 36 t 54 i0 (.agg #[.string ByteArray.empty,.int .i64 0,.int .i64 0,.slice none 0 0,.slice none 0 0]) 5 80 Tryz.underlying36 hi hz0 hz1 hz2 rfl (by decide) v l.length _ h ⟨a,0,none⟩ 1 1 (su.c m) rfl hnews h1 (by unfold maxLen; omega) (by omega) hB
 exact ⟨v',w',hr,by rw [hfl,hln]; exact ho,hg⟩
def Msu (W:World) (B:Nat) (r:su.E):Prop:=∃ g h,r.ra=some ⟨g,0,none⟩/\r.ha=some ⟨h,0,none⟩/\W.ownsRow B 134 3 (.slice (some ⟨g,0,none⟩) r.rs.length r.rc) r.rs.length (r.rs.flatMap flY.c)/\W.ownsRow B 136 2 (.slice (some ⟨h,0,none⟩) r.hs.length r.hc) r.hs.length (r.hs.flatMap flK.c)
theorem Msu.keep {W W':World} {B:Nat} {r:su.E} (m:Msu W B r) (hk:∀ (B n q:Nat) (T:TypeId) (v:Value) (xs:List Value),W.ownsRow B T n v q xs->T ≠ 58->T ≠ 54->T ≠ 38->W'.ownsRow B T n v q xs):Msu W' B r:=by
 obtain ⟨g,h,h1,h2,h3,h4⟩:=m
 exact ⟨g,h,h1,h2,hk _ _ _ _ _ _ h3 (by decide) (by decide) (by decide),hk _ _ _ _ _ _ h4 (by decide) (by decide) (by decide)⟩
structure Kv (w:World) (es:List Ex) (bs:List Bi) (qs:List qu.E) (ts:List su.E) (a0 b0 q0 t0 ec bc qc tc g1 c1 h1 c2 gn S0:Nat) (v u x y:Value) (ls:List qu.E) (us:List su.E) (W:World):Prop where
 bel:Below w.heap.size w W
 box:W.heap[w.heap.size]?=some (.cells #[.slice (some ⟨a0,0,none⟩) es.length ec,.slice (some ⟨b0,0,none⟩) bs.length bc,.slice (some ⟨q0,0,none⟩) qs.length qc,.slice (some ⟨t0,0,none⟩) ts.length tc] 38 (0,0))
 res:W.heap[w.heap.size+1]?=some (.cells #[.slice none 0 0,.slice none 0 0,.slice none 0 0,.slice none 0 0] 38 (0,0))
 gnb:W.heap[gn]?=some (.cells #[.slice (some ⟨g1,0,none⟩) es.length c1,.slice (some ⟨h1,0,none⟩) bs.length c2,v,u] 38 (0,0))
 o1:W.ownsRow (w.heap.size+2) 137 2 (.slice (some ⟨g1,0,none⟩) es.length c1) es.length (es.flatMap Go.Proofs.YtaoefccgdfcchaaGreat.su.cE)
 o2:W.ownsRow (w.heap.size+2) 138 3 (.slice (some ⟨h1,0,none⟩) bs.length c2) bs.length (bs.flatMap Go.Proofs.YtaoefccgdfcchaaGreat.su.cB)
 qo:W.ownsRow S0 58 4 x ls.length (ls.flatMap qu.c)
 so:W.ownsRow S0 54 5 y us.length (us.flatMap su.c)
 qe:∀ r ∈ ls,Mqu W S0 r
 se:∀ r ∈ us,Msu W S0 r
 hs:S0 <= W.heap.size
 gl:w.heap.size+2 <= gn
section
variable {w:World} {es:List Ex} {bs:List Bi} {qs:List qu.E} {ts:List su.E} {a0 b0 q0 t0 ec bc qc tc g1 c1 h1 c2 gn S0:Nat} {v u x y:Value} {ls:List qu.E} {us:List su.E} {W W':World}
theorem Kv.on (h:Kv w es bs qs ts a0 b0 q0 t0 ec bc qc tc g1 c1 h1 c2 gn S0 v u x y ls us W) (hb:Below W.heap.size W W'):Kv w es bs qs ts a0 b0 q0 t0 ec bc qc tc g1 c1 h1 c2 gn S0 v u x y ls us W' :=
 ⟨h.bel.trans (hb.mono h.bel.size),bstay h.box hb (Array.getElem?_eq_some_iff.1 h.box).1,bstay h.res hb (Array.getElem?_eq_some_iff.1 h.res).1,bstay h.gnb hb (Array.getElem?_eq_some_iff.1 h.gnb).1,su.own_stays h.o1 hb,su.own_stays h.o2 hb,su.own_stays h.qo hb,su.own_stays h.so hb,
  fun r hr=>(h.qe r hr).keep (fun B n q T v xs ho _ _ _=>su.own_stays ho hb),fun r hr=>(h.se r hr).keep (fun B n q T v xs ho _ _ _=>su.own_stays ho hb),Nat.le_trans h.hs hb.size,h.gl⟩
theorem kept_blk {b:Nat} {ob:Obj} {r:Option Nat} (hg:W.grownBy W' r) (h:W.heap[b]?=some ob) (hne:r ≠ some b):W'.heap[b]?=some ob:=(hg.block b (Array.getElem?_eq_some_iff.1 h).1 (fun e=>hne e.symm)).trans h
theorem Kv.app_qu (h:Kv w es bs qs ts a0 b0 q0 t0 ec bc qc tc g1 c1 h1 c2 gn S0 v u x y ls us W) (hS0:w.heap.size <= S0) {a:Nat} {m:qu.E} (hl:ls.length <= 1048576) (hc:W.heap[a]?=some (.cells (qu.c m).toArray 58 (0,0))) (hm:Mqu W S0 m) (t:TypeId) :
  ∃ x' W',(Builtin.append_ #[35,35] t #[x,.slice (some ⟨a,0,none⟩) 1 1]).run Tryz.prog W=.ok x' W'/\Kv w es bs qs ts a0 b0 q0 t0 ec bc qc tc g1 c1 h1 c2 gn S0 v u x' y (ls++[m]) us W':=by
 obtain ⟨z,W',hr,ho,hg⟩:=grow_qu m h.qo h.hs hl hc t
 have hB:∀ b,x.ownBlock=some b->S0 <= b:=fun b e=>by
  obtain ⟨_,⟨rfl,_⟩ | ⟨g,cap,cur,rfl,hb,_⟩⟩:=h.qo
  ·simp [Value.ownBlock] at e
  ·simp [Value.ownBlock] at e; omega
 have k1:∀ (b:Nat) (cur:Array Value),W.heap[b]?=some (.cells cur 38 (0,0))->W'.heap[b]?=some (.cells cur 38 (0,0)):=fun b cur hb=>kept_blk hg hb (su.apart h.qo hb (by decide))
 have k2:∀ (B n q:Nat) (T:TypeId) (v:Value) (xs:List Value),W.ownsRow B T n v q xs->T ≠ 58->T ≠ 38->W'.ownsRow B T n v q xs:=fun B n q T v xs ho h1 _=>ho.kept hg (su.apartOO ho h.qo h1)
 have hlow:Below w.heap.size W W':=⟨hg.os,hg.tape,hg.output,hg.size,fun b hb=>hg.block b (Nat.lt_of_lt_of_le hb h.bel.size) (fun e=>by have:=hB b e.symm; have:=h.hs; have:=hS0; omega)⟩
 exact ⟨z,W',hr,h.bel.trans hlow,k1 _ _ h.box,k1 _ _ h.res,k1 _ _ h.gnb,k2 _ _ _ _ _ _ h.o1 (by decide) (by decide),k2 _ _ _ _ _ _ h.o2 (by decide) (by decide),ho,k2 _ _ _ _ _ _ h.so (by decide) (by decide),fun r hr=>(by rcases List.mem_append.1 hr with hr | hr; exact (h.qe r hr).keep (fun B n q T v xs ho h1 h2 h3=>k2 _ _ _ _ _ _ ho h1 h3); obtain rfl:=List.mem_singleton.1 hr; exact hm.keep (fun B n q T v xs ho h1 h2 h3=>k2 _ _ _ _ _ _ ho h1 h3)),fun r hr=>(h.se r hr).keep (fun B n q T v xs ho h1 h2 h3=>k2 _ _ _ _ _ _ ho h1 h3),Nat.le_trans h.hs hg.size,h.gl⟩
theorem Kv.put_qu (h:Kv w es bs qs ts a0 b0 q0 t0 ec bc qc tc g1 c1 h1 c2 gn S0 v u x y ls us W):Kv w es bs qs ts a0 b0 q0 t0 ec bc qc tc g1 c1 h1 c2 gn S0 x u x y ls us (W.setCell ⟨gn,2,none⟩ x):=by
 have hgl:=h.gl
 have k2:∀ (B n q:Nat) (T:TypeId) (v:Value) (xs:List Value),W.ownsRow B T n v q xs->T ≠ 38->(W.setCell ⟨gn,2,none⟩ x).ownsRow B T n v q xs:=fun B n q T v xs ho hT=>ho.kept (db.gb_set (db.gb_refl W (some gn)) 2 x) (.inr (su.apart ho h.gnb hT))
 exact ⟨h.bel.setCell (by show w.heap.size <= gn; omega) _,boff h.box _ _ _ (by omega),boff h.res _ _ _ (by omega),bset h.gnb 2 x,k2 _ _ _ _ _ _ h.o1 (by decide),k2 _ _ _ _ _ _ h.o2 (by decide),k2 _ _ _ _ _ _ h.qo (by decide),k2 _ _ _ _ _ _ h.so (by decide),fun r hr=>(h.qe r hr).keep (fun B n q T v xs ho _ _ h3=>k2 _ _ _ _ _ _ ho h3),fun r hr=>(h.se r hr).keep (fun B n q T v xs ho _ _ h3=>k2 _ _ _ _ _ _ ho h3),by simp only [World.size_setCell]; exact h.hs,h.gl⟩
theorem Kv.app_su (h:Kv w es bs qs ts a0 b0 q0 t0 ec bc qc tc g1 c1 h1 c2 gn S0 v u x y ls us W) (hS0:w.heap.size <= S0) {a:Nat} {m:su.E} (hl:us.length <= 1048576) (hc:W.heap[a]?=some (.cells (su.c m).toArray 54 (0,0))) (hm:Msu W S0 m) (t:TypeId) :
  ∃ y' W',(Builtin.append_ #[36,36] t #[y,.slice (some ⟨a,0,none⟩) 1 1]).run Tryz.prog W=.ok y' W'/\Kv w es bs qs ts a0 b0 q0 t0 ec bc qc tc g1 c1 h1 c2 gn S0 v u x y' ls (us++[m]) W':=by
 obtain ⟨z,W',hr,ho,hg⟩:=grow_su m h.so h.hs hl hc t
 have hB:∀ b,y.ownBlock=some b->S0 <= b:=fun b e=>by
  obtain ⟨_,⟨rfl,_⟩ | ⟨g,cap,cur,rfl,hb,_⟩⟩:=h.so
  ·simp [Value.ownBlock] at e
  ·simp [Value.ownBlock] at e; omega
 have k1:∀ (b:Nat) (cur:Array Value),W.heap[b]?=some (.cells cur 38 (0,0))->W'.heap[b]?=some (.cells cur 38 (0,0)):=fun b cur hb=>kept_blk hg hb (su.apart h.so hb (by decide))
 have k2:∀ (B n q:Nat) (T:TypeId) (v:Value) (xs:List Value),W.ownsRow B T n v q xs->T ≠ 54->T ≠ 38->W'.ownsRow B T n v q xs:=fun B n q T v xs ho h1 _=>ho.kept hg (su.apartOO ho h.so h1)
 have hlow:Below w.heap.size W W':=⟨hg.os,hg.tape,hg.output,hg.size,fun b hb=>hg.block b (Nat.lt_of_lt_of_le hb h.bel.size) (fun e=>by have:=hB b e.symm; have:=h.hs; have:=hS0; omega)⟩
 exact ⟨z,W',hr,h.bel.trans hlow,k1 _ _ h.box,k1 _ _ h.res,k1 _ _ h.gnb,k2 _ _ _ _ _ _ h.o1 (by decide) (by decide),k2 _ _ _ _ _ _ h.o2 (by decide) (by decide),k2 _ _ _ _ _ _ h.qo (by decide) (by decide),ho,fun r hr=>(h.qe r hr).keep (fun B n q T v xs ho h1 h2 h3=>k2 _ _ _ _ _ _ ho h2 h3),fun r hr=>(by rcases List.mem_append.1 hr with hr | hr; exact (h.se r hr).keep (fun B n q T v xs ho h1 h2 h3=>k2 _ _ _ _ _ _ ho h2 h3); obtain rfl:=List.mem_singleton.1 hr; exact hm.keep (fun B n q T v xs ho h1 h2 h3=>k2 _ _ _ _ _ _ ho h2 h3)),Nat.le_trans h.hs hg.size,h.gl⟩
theorem Kv.put_su (h:Kv w es bs qs ts a0 b0 q0 t0 ec bc qc tc g1 c1 h1 c2 gn S0 v u x y ls us W):Kv w es bs qs ts a0 b0 q0 t0 ec bc qc tc g1 c1 h1 c2 gn S0 v y x y ls us (W.setCell ⟨gn,3,none⟩ y):=by
 have hgl:=h.gl
 have k2:∀ (B n q:Nat) (T:TypeId) (v:Value) (xs:List Value),W.ownsRow B T n v q xs->T ≠ 38->(W.setCell ⟨gn,3,none⟩ y).ownsRow B T n v q xs:=fun B n q T v xs ho hT=>ho.kept (db.gb_set (db.gb_refl W (some gn)) 3 y) (.inr (su.apart ho h.gnb hT))
 exact ⟨h.bel.setCell (by show w.heap.size <= gn; omega) _,boff h.box _ _ _ (by omega),boff h.res _ _ _ (by omega),bset h.gnb 3 y,k2 _ _ _ _ _ _ h.o1 (by decide),k2 _ _ _ _ _ _ h.o2 (by decide),k2 _ _ _ _ _ _ h.qo (by decide),k2 _ _ _ _ _ _ h.so (by decide),fun r hr=>(h.qe r hr).keep (fun B n q T v xs ho _ _ h3=>k2 _ _ _ _ _ _ ho h3),fun r hr=>(h.se r hr).keep (fun B n q T v xs ho _ _ h3=>k2 _ _ _ _ _ _ ho h3),by simp only [World.size_setCell]; exact h.hs,h.gl⟩
end
structure Gqu where
 m:qu.E
 a:Nat
 x:Value
def wsqu (gn b q0 n cp i:Nat) (v:Value) (ev:Array Value) (s:Gqu):List (Nat × Value):=[(17,.pointer (some ⟨gn,2,none⟩)),(18,v),(19,.pointer (some ⟨b,2,none⟩)),(20,.slice (some ⟨q0,0,none⟩) n cp),(21,.int .i64 i),(22,.pointer (some ⟨q0,i*4,none⟩)),(23,.agg ev),(24,.agg (qu.c s.m).toArray),(25,.slice (some ⟨s.a,0,none⟩) 1 1),(26,s.x),(27,.pointer (some ⟨gn,2,none⟩))]
def Squ (w:World) (es:List Ex) (bs:List Bi) (qs:List qu.E) (ts:List su.E) (a0 b0 q0 t0 ec bc qc tc g1 c1 h1 c2 gn S0:Nat) (v u:Value) (ls:List qu.E) (us:List su.E) (r:qu.E) (s:Gqu):Nat->World->Prop
 | 0,W=>Kv w es bs qs ts a0 b0 q0 t0 ec bc qc tc g1 c1 h1 c2 gn S0 v u v u ls us W
 | 1,W=>Kv w es bs qs ts a0 b0 q0 t0 ec bc qc tc g1 c1 h1 c2 gn S0 v u v u ls us W/\Mqu W S0 s.m/\qu.same s.m r
 | 2,W=>Kv w es bs qs ts a0 b0 q0 t0 ec bc qc tc g1 c1 h1 c2 gn S0 v u v u ls us W/\Mqu W S0 s.m/\qu.same s.m r/\W.heap[s.a]?=some (.cells (qu.c s.m).toArray 58 (0,0))
 | 3,W=>Kv w es bs qs ts a0 b0 q0 t0 ec bc qc tc g1 c1 h1 c2 gn S0 v u s.x u (ls++[s.m]) us W/\qu.same s.m r
 | _,W=>Kv w es bs qs ts a0 b0 q0 t0 ec bc qc tc g1 c1 h1 c2 gn S0 s.x u s.x u (ls++[s.m]) us W/\qu.same s.m r
theorem box_qu {w:World} {es:List Ex} {bs:List Bi} {qs:List qu.E} {ts:List su.E} {a0 b0 q0 t0 ec bc qc tc g1 c1 h1 c2 gn S0:Nat} {v u:Value} {ls:List qu.E} {us:List su.E} {r:qu.E} {s:Gqu} {k:Nat} {W:World} (h:Squ w es bs qs ts a0 b0 q0 t0 ec bc qc tc g1 c1 h1 c2 gn S0 v u ls us r s k W):W.heap[w.heap.size]?=some (.cells #[.slice (some ⟨a0,0,none⟩) es.length ec,.slice (some ⟨b0,0,none⟩) bs.length bc,.slice (some ⟨q0,0,none⟩) qs.length qc,.slice (some ⟨t0,0,none⟩) ts.length tc] 38 (0,0)) :=
 match k,h with
 | 0,h=>h.box
 | 1,h=>h.1.box
 | 2,h=>h.1.box
 | 3,h=>h.1.box
 | _+4,h=>h.1.box
theorem out_qu {w:World} {es:List Ex} {bs:List Bi} {qs:List qu.E} {ts:List su.E} {a0 b0 q0 t0 ec bc qc tc g1 c1 h1 c2 gn S0:Nat} {v u:Value} {ls:List qu.E} {us:List su.E} {r:qu.E} {s:Gqu} {k:Nat} {W:World} (hk:k <= 2) (h:Squ w es bs qs ts a0 b0 q0 t0 ec bc qc tc g1 c1 h1 c2 gn S0 v u ls us r s k W):W.heap[gn]?=some (.cells #[.slice (some ⟨g1,0,none⟩) es.length c1,.slice (some ⟨h1,0,none⟩) bs.length c2,v,u] 38 (0,0)) :=
 match k,hk,h with
 | 0,_,h=>h.gnb
 | 1,_,h=>h.1.gnb
 | 2,_,h=>h.1.gnb
structure Gsu where
 m:su.E
 a:Nat
 x:Value
def wssu (gn b t0 n cp i:Nat) (u:Value) (ev:Array Value) (s:Gsu):List (Nat × Value):=[(35,.pointer (some ⟨gn,3,none⟩)),(36,u),(37,.pointer (some ⟨b,3,none⟩)),(38,.slice (some ⟨t0,0,none⟩) n cp),(39,.int .i64 i),(40,.pointer (some ⟨t0,i*5,none⟩)),(41,.agg ev),(42,.agg (su.c s.m).toArray),(43,.slice (some ⟨s.a,0,none⟩) 1 1),(44,s.x),(45,.pointer (some ⟨gn,3,none⟩))]
def Ssu (w:World) (es:List Ex) (bs:List Bi) (qs:List qu.E) (ts:List su.E) (a0 b0 q0 t0 ec bc qc tc g1 c1 h1 c2 gn S0:Nat) (v u:Value) (ls:List qu.E) (us:List su.E) (r:su.E) (s:Gsu):Nat->World->Prop
 | 0,W=>Kv w es bs qs ts a0 b0 q0 t0 ec bc qc tc g1 c1 h1 c2 gn S0 v u v u ls us W
 | 1,W=>Kv w es bs qs ts a0 b0 q0 t0 ec bc qc tc g1 c1 h1 c2 gn S0 v u v u ls us W/\Msu W S0 s.m/\su.same s.m r
 | 2,W=>Kv w es bs qs ts a0 b0 q0 t0 ec bc qc tc g1 c1 h1 c2 gn S0 v u v u ls us W/\Msu W S0 s.m/\su.same s.m r/\W.heap[s.a]?=some (.cells (su.c s.m).toArray 54 (0,0))
 | 3,W=>Kv w es bs qs ts a0 b0 q0 t0 ec bc qc tc g1 c1 h1 c2 gn S0 v u v s.x ls (us++[s.m]) W/\su.same s.m r
 | _,W=>Kv w es bs qs ts a0 b0 q0 t0 ec bc qc tc g1 c1 h1 c2 gn S0 v s.x v s.x ls (us++[s.m]) W/\su.same s.m r
theorem box_su {w:World} {es:List Ex} {bs:List Bi} {qs:List qu.E} {ts:List su.E} {a0 b0 q0 t0 ec bc qc tc g1 c1 h1 c2 gn S0:Nat} {v u:Value} {ls:List qu.E} {us:List su.E} {r:su.E} {s:Gsu} {k:Nat} {W:World} (h:Ssu w es bs qs ts a0 b0 q0 t0 ec bc qc tc g1 c1 h1 c2 gn S0 v u ls us r s k W):W.heap[w.heap.size]?=some (.cells #[.slice (some ⟨a0,0,none⟩) es.length ec,.slice (some ⟨b0,0,none⟩) bs.length bc,.slice (some ⟨q0,0,none⟩) qs.length qc,.slice (some ⟨t0,0,none⟩) ts.length tc] 38 (0,0)) :=
 match k,h with
 | 0,h=>h.box
 | 1,h=>h.1.box
 | 2,h=>h.1.box
 | 3,h=>h.1.box
 | _+4,h=>h.1.box
theorem out_su {w:World} {es:List Ex} {bs:List Bi} {qs:List qu.E} {ts:List su.E} {a0 b0 q0 t0 ec bc qc tc g1 c1 h1 c2 gn S0:Nat} {v u:Value} {ls:List qu.E} {us:List su.E} {r:su.E} {s:Gsu} {k:Nat} {W:World} (hk:k <= 2) (h:Ssu w es bs qs ts a0 b0 q0 t0 ec bc qc tc g1 c1 h1 c2 gn S0 v u ls us r s k W):W.heap[gn]?=some (.cells #[.slice (some ⟨g1,0,none⟩) es.length c1,.slice (some ⟨h1,0,none⟩) bs.length c2,v,u] 38 (0,0)) :=
 match k,hk,h with
 | 0,_,h=>h.gnb
 | 1,_,h=>h.1.gnb
 | 2,_,h=>h.1.gnb
theorem own_form {W:World} {B n q:Nat} {T:TypeId} {v:Value} {xs:List Value} (h:W.ownsRow B T n v q xs):∃ b c,v=.slice b q c:=by
 obtain ⟨_,⟨rfl,h0⟩ | ⟨g,cap,cur,rfl,_⟩⟩:=h
 ·exact ⟨none,0,by rw [h0]⟩
 ·exact ⟨_,cap,rfl⟩
structure Ke (w:World) (es:List Ex) (bs:List Bi) (g1 c1 h1 c2 S0:Nat) (x y:Value) (ls:List qu.E) (us:List su.E) (W:World):Prop where
 bel:Below w.heap.size w W
 o1:W.ownsRow (w.heap.size+2) 137 2 (.slice (some ⟨g1,0,none⟩) es.length c1) es.length (es.flatMap Go.Proofs.YtaoefccgdfcchaaGreat.su.cE)
 o2:W.ownsRow (w.heap.size+2) 138 3 (.slice (some ⟨h1,0,none⟩) bs.length c2) bs.length (bs.flatMap Go.Proofs.YtaoefccgdfcchaaGreat.su.cB)
 qo:W.ownsRow S0 58 4 x ls.length (ls.flatMap qu.c)
 so:W.ownsRow S0 54 5 y us.length (us.flatMap su.c)
 qe:∀ r ∈ ls,Mqu W S0 r
 se:∀ r ∈ us,Msu W S0 r
 hs:w.heap.size+2 <= S0
section
variable {w:World} {es:List Ex} {bs:List Bi} {qs:List qu.E} {ts:List su.E} {a0 b0 q0 t0 ec bc qc tc g1 c1 h1 c2 gn S0:Nat} {v u:Value} {ls:List qu.E} {us:List su.E} {W:World}
theorem Kv.fin (h:Kv w es bs qs ts a0 b0 q0 t0 ec bc qc tc g1 c1 h1 c2 gn S0 v u v u ls us W) (hS:w.heap.size+2 <= S0):Hid (Ke w es bs g1 c1 h1 c2 S0 v u ls us ((((W.setCell ⟨w.heap.size+1,0,none⟩ (.slice (some ⟨g1,0,none⟩) es.length c1)).setCell ⟨w.heap.size+1,1,none⟩ (.slice (some ⟨h1,0,none⟩) bs.length c2)).setCell ⟨w.heap.size+1,2,none⟩ v).setCell ⟨w.heap.size+1,3,none⟩ u)):=by
 have b0:=h.res
 have b1:=bset b0 0 (.slice (some ⟨g1,0,none⟩) es.length c1)
 have b2:=bset b1 1 (.slice (some ⟨h1,0,none⟩) bs.length c2)
 have b3:=bset b2 2 v
 have k2:∀ (B n q:Nat) (T:TypeId) (z:Value) (xs:List Value),W.ownsRow B T n z q xs->T ≠ 38->((((W.setCell ⟨w.heap.size+1,0,none⟩ (.slice (some ⟨g1,0,none⟩) es.length c1)).setCell ⟨w.heap.size+1,1,none⟩ (.slice (some ⟨h1,0,none⟩) bs.length c2)).setCell ⟨w.heap.size+1,2,none⟩ v).setCell ⟨w.heap.size+1,3,none⟩ u).ownsRow B T n z q xs:=fun B n q T z xs ho hT=>by
  have e0:=ho.kept (db.gb_set (db.gb_refl W (some (w.heap.size+1))) 0 (.slice (some ⟨g1,0,none⟩) es.length c1)) (.inr (su.apart ho b0 hT))
  have e1:=e0.kept (db.gb_set (db.gb_refl _ (some (w.heap.size+1))) 1 (.slice (some ⟨h1,0,none⟩) bs.length c2)) (.inr (su.apart e0 b1 hT))
  have e2:=e1.kept (db.gb_set (db.gb_refl _ (some (w.heap.size+1))) 2 v) (.inr (su.apart e1 b2 hT))
  exact e2.kept (db.gb_set (db.gb_refl _ (some (w.heap.size+1))) 3 u) (.inr (su.apart e2 b3 hT))
 have hx:w.heap.size <= w.heap.size+1:=by omega
 exact ⟨(((h.bel.setCell hx _).setCell hx _).setCell hx _).setCell hx _,k2 _ _ _ _ _ _ h.o1 (by decide),k2 _ _ _ _ _ _ h.o2 (by decide),k2 _ _ _ _ _ _ h.qo (by decide),k2 _ _ _ _ _ _ h.so (by decide),fun r hr=>(h.qe r hr).keep (fun B n q T z xs ho _ _ h3=>k2 _ _ _ _ _ _ ho h3),fun r hr=>(h.se r hr).keep (fun B n q T z xs ho _ _ h3=>k2 _ _ _ _ _ _ ho h3),hS⟩
end
theorem app_run {act:Act} {o:Oper} {i j:Nat} {T:TypeId} {x y z:Value} {W W':World} (hop:o.op=.call { callee:=.builtin .append,args:=#[.tmp i,.tmp j],argTypes:=#[T,T] }) (hi:act.eval (.tmp i)=x) (hj:act.eval (.tmp j)=y) (hr:(Builtin.append_ #[T,T] o.type #[x,y]).run Tryz.prog W=.ok z W'):(execOp act.eval o).run Tryz.prog W=.ok (.value z) W':=by
 unfold execOp
 simp only [hop,resolve,invoke,builtin,Sem.run_bind,Sem.run_pure,Result.andThen_ok,List.map_toArray,List.map_cons,List.map_nil,hi,hj,hr]
theorem row_on {α:Type} {c:α->List Value} {n:Nat} {w W:World} {a:Option Addr} {l:List α} (h:Row c n w w.heap.size a l) (hb:Below w.heap.size w W):Row c n W W.heap.size a l:=h.inn hb
theorem own_lo {W:World} {B B' n q:Nat} {T:TypeId} {v:Value} {xs:List Value} (h:W.ownsRow B T n v q xs) (hB:B' <= B):W.ownsRow B' T n v q xs:=by
 obtain ⟨h1,h2 | ⟨g,cap,cur,h3,h4,h5⟩⟩:=h
 ·exact ⟨h1,.inl h2⟩
 ·exact ⟨h1,.inr ⟨g,cap,cur,h3,by omega,h5⟩⟩
def Sq (qs ls:List qu.E) (k:Nat):Prop:=ls.length=k/\∀ (i:Nat) (r s:qu.E),ls[i]?=some r->qs[i]?=some s->qu.same r s
def St (ts us:List su.E) (k:Nat):Prop:=us.length=k/\∀ (i:Nat) (r s:su.E),us[i]?=some r->ts[i]?=some s->su.same r s
theorem Sq.more {qs ls:List qu.E} {k:Nat} {m e:qu.E} (h:Sq qs ls k) (he:qs[k]?=some e) (hm:qu.same m e):Sq qs (ls++[m]) (k+1):=⟨by simp [h.1],fun i r s hr hs=>by
 by_cases hi:i < ls.length
 ·rw [List.getElem?_append_left hi] at hr; exact h.2 i r s hr hs
 ·have hlt:=(List.getElem?_eq_some_iff.1 hr).1
  simp at hlt
  obtain rfl:i=k:=by have:=h.1; omega
  rw [List.getElem?_append_right (by have:=h.1; omega),h.1,Nat.sub_self] at hr
  simp at hr
  subst hr
  rw [he] at hs
  cases hs
  exact hm⟩
theorem St.more {ts us:List su.E} {k:Nat} {m e:su.E} (h:St ts us k) (he:ts[k]?=some e) (hm:su.same m e):St ts (us++[m]) (k+1):=⟨by simp [h.1],fun i r s hr hs=>by
 by_cases hi:i < us.length
 ·rw [List.getElem?_append_left hi] at hr; exact h.2 i r s hr hs
 ·have hlt:=(List.getElem?_eq_some_iff.1 hr).1
  simp at hlt
  obtain rfl:i=k:=by have:=h.1; omega
  rw [List.getElem?_append_right (by have:=h.1; omega),h.1,Nat.sub_self] at hr
  simp at hr
  subst hr
  rw [he] at hs
  cases hs
  exact hm⟩
theorem spec_copy (es:List Ex) (bs:List Bi) (qs:List qu.E) (ts:List su.E) (a0 b0 q0 t0 ec bc qc tc:Nat) (w:World) (F:cb.Fit es bs qs ts) (hE:RE w a0 es) (hB:RB w b0 bs) (hQ:qu.R w q0 qs) (hT:su.R w t0 ts) (hqr:∀ r ∈ qs,∃ g h,r.ra=some ⟨g,0,none⟩/\r.ha=some ⟨h,0,none⟩/\Row flM.c 5 w w.heap.size r.ra r.rs/\Row flH.c 7 w w.heap.size r.ha r.hs) (htr:∀ r ∈ ts,cb.At w r) :
  Calls Tryz.prog 14 #[.agg #[.slice (some ⟨a0,0,none⟩) es.length ec,.slice (some ⟨b0,0,none⟩) bs.length bc,.slice (some ⟨q0,0,none⟩) qs.length qc,.slice (some ⟨t0,0,none⟩) ts.length tc]] w fun r w'=>∃ (g1 c1 h1 c2 gn S0:Nat) (x y:Value) (ks:List qu.E) (us:List su.E),r=.returned (.agg #[.slice (some ⟨g1,0,none⟩) es.length c1,.slice (some ⟨h1,0,none⟩) bs.length c2,x,y])/\Hid (cb.Same qs ks ts us)/\Hid (Ke w es bs g1 c1 h1 c2 S0 x y ks us w'):=by
 have hb:Below w.heap.size w ((w.alloc (.cells #[.slice (some ⟨a0,0,none⟩) es.length ec,.slice (some ⟨b0,0,none⟩) bs.length bc,.slice (some ⟨q0,0,none⟩) qs.length qc,.slice (some ⟨t0,0,none⟩) ts.length tc] 38)).alloc (.cells #[.slice none 0 0,.slice none 0 0,.slice none 0 0,.slice none 0 0] 38)):=((Below.refl _ _).alloc (Nat.le_refl _) _).alloc (by simp) _
 have hk:=sc.spec_copy es bs a0 b0 ec bc _ F.el F.bl (hE.below hb) (hB.below hb)
 have hA:=bold (bnew w #[.slice (some ⟨a0,0,none⟩) es.length ec,.slice (some ⟨b0,0,none⟩) bs.length bc,.slice (some ⟨q0,0,none⟩) qs.length qc,.slice (some ⟨t0,0,none⟩) ts.length tc] 38) (.cells #[.slice none 0 0,.slice none 0 0,.slice none 0 0,.slice none 0 0] 38)
 have hR:=bnew (w.alloc (.cells #[.slice (some ⟨a0,0,none⟩) es.length ec,.slice (some ⟨b0,0,none⟩) bs.length bc,.slice (some ⟨q0,0,none⟩) qs.length qc,.slice (some ⟨t0,0,none⟩) ts.length tc] 38)) #[.slice none 0 0,.slice none 0 0,.slice none 0 0,.slice none 0 0] 38
 rw [World.size_alloc] at hR
 have HF:Hid (cb.Fit es bs qs ts):=F
 have HQ:Hid (qu.R w q0 qs):=hQ
 have HT:Hid (su.R w t0 ts):=hT
 have HQR:Hid (∀ r ∈ qs,∃ g h,r.ra=some ⟨g,0,none⟩/\r.ha=some ⟨h,0,none⟩/\Row flM.c 5 w w.heap.size r.ra r.rs/\Row flH.c 7 w w.heap.size r.ha r.hs):=hqr
 have HTR:Hid (∀ r ∈ ts,cb.At w r):=htr
 have hql:=F.ql
 have htl:=F.tl
 have HAB:Hid (((w.alloc (.cells #[.slice (some ⟨a0,0,none⟩) es.length ec,.slice (some ⟨b0,0,none⟩) bs.length bc,.slice (some ⟨q0,0,none⟩) qs.length qc,.slice (some ⟨t0,0,none⟩) ts.length tc] 38)).alloc (.cells #[.slice none 0 0,.slice none 0 0,.slice none 0 0,.slice none 0 0] 38)).heap[w.heap.size]?=some (.cells #[.slice (some ⟨a0,0,none⟩) es.length ec,.slice (some ⟨b0,0,none⟩) bs.length bc,.slice (some ⟨q0,0,none⟩) qs.length qc,.slice (some ⟨t0,0,none⟩) ts.length tc] 38 (0,0))/\((w.alloc (.cells #[.slice (some ⟨a0,0,none⟩) es.length ec,.slice (some ⟨b0,0,none⟩) bs.length bc,.slice (some ⟨q0,0,none⟩) qs.length qc,.slice (some ⟨t0,0,none⟩) ts.length tc] 38)).alloc (.cells #[.slice none 0 0,.slice none 0 0,.slice none 0 0,.slice none 0 0] 38)).heap[w.heap.size+1]?=some (.cells #[.slice none 0 0,.slice none 0 0,.slice none 0 0,.slice none 0 0] 38 (0,0))):=⟨hA,hR⟩
 clear hE hB F hQ hT hqr htr hA hR
 go_enter Tryz.func14,Tryz.ntmps14
 go_wp2_with (go_at_call 41; fail)
 refine hk.mono ?_
 rintro e w1 ⟨g1,c1,h1,c2,rfl,o1,o2,hb1⟩
 have hs1:=hb1.size
 simp only [World.size_alloc] at hs1
 have hal:=fl.bl w1 (.cells #[.slice (some ⟨g1,0,none⟩) es.length c1,.slice (some ⟨h1,0,none⟩) bs.length c2,.slice none 0 0,.slice none 0 0] 38)
 have HI:Hid (Kv w es bs qs ts a0 b0 q0 t0 ec bc qc tc g1 c1 h1 c2 w1.heap.size (w1.heap.size+1) (.slice none 0 0) (.slice none 0 0) (.slice none 0 0) (.slice none 0 0) [] [] (w1.alloc (.cells #[.slice (some ⟨g1,0,none⟩) es.length c1,.slice (some ⟨h1,0,none⟩) bs.length c2,.slice none 0 0,.slice none 0 0] 38))) :=
  ⟨(hb.trans (hb1.mono hb.size)).trans (hal.mono (by omega)),bstay (bstay HAB.out.1 hb1 (by simp; omega)) hal (by omega),bstay (bstay HAB.out.2 hb1 (by simp)) hal (by omega),bnew w1 _ _,su.own_stays (own_lo o1 (by simp only [World.size_alloc]; omega)) hal,su.own_stays (own_lo o2 (by simp only [World.size_alloc]; omega)) hal,World.ownsRow_nil _ _ _ _,World.ownsRow_nil _ _ _ _,fun r hr=>by simp at hr,fun r hr=>by simp at hr,by simp,by omega⟩
 clear hk o1 o2 hal hb1 hb HAB
 go_wp2
 obtain ⟨X,hX⟩:∃ X,w1.alloc (.cells #[.slice (some ⟨g1,0,none⟩) es.length c1,.slice (some ⟨h1,0,none⟩) bs.length c2,.slice none 0 0,.slice none 0 0] 38)=X:=⟨_,rfl⟩
 rw [hX] at HI ⊢
 clear hX
 obtain ⟨S0,hS0'⟩:∃ S0,w1.heap.size+1=S0:=⟨_,rfl⟩
 have hS0:w.heap.size <= S0:=by omega
 have hS2:w.heap.size+2 <= S0:=by omega
 have hS2:w.heap.size+2 <= S0:=by omega
 rw [hS0'] at HI
 clear hS0' hs1
 obtain ⟨gn,hgn⟩:∃ gn,w1.heap.size=gn:=⟨_,rfl⟩
 rw [hgn] at HI ⊢
 clear hgn
 go_loopw [4] (fun i wr=>∃ (k:Nat) (v:Value) (ls:List qu.E),k <= qs.length/\i=.int .i64 k/\Hid (Sq qs ls k)/\Hid (Kv w es bs qs ts a0 b0 q0 t0 ec bc qc tc g1 c1 h1 c2 gn S0 v (.slice none 0 0) v (.slice none 0 0) ls [] wr)) (fun i _=>qs.length - (intOf i).toNat)
 case atStart=>exact ⟨0,_,[],Nat.zero_le _,rfl,⟨rfl,fun i r s hr=>by simp at hr⟩,HI⟩
 case round =>
  obtain ⟨k,v,ls,hk,rfl,hsq,hinv⟩:=hrel
  obtain ⟨u,hu⟩:∃ u:Value,Value.slice none 0 0=u:=⟨_,rfl⟩
  obtain ⟨us,hus⟩:∃ us:List su.E,([]:List su.E)=us:=⟨_,rfl⟩
  have xq:wr.cell? ⟨w.heap.size,2,none⟩=some (.slice (some ⟨q0,0,none⟩) qs.length qc):=bcell hinv.out.box rfl
  clear HI
  by_cases hkl:k < qs.length
  ·have HG:Hid (qs[k]?=some qs[k]):=List.getElem?_eq_getElem hkl
   have hmem:qs[k] ∈ qs:=List.getElem_mem hkl
   obtain ⟨⟨nm,nx,ra,rc,rs,ha,hc,hs⟩,he⟩:∃ e,qs[k]=e:=⟨_,rfl⟩
   rw [he] at HG hmem
   obtain ⟨gr,gh,h1',h2',r1,r2⟩:=HQR.out _ hmem
   have f:=HF.out.qf _ hmem
   simp only at h1' h2' r1 r2 f
   subst h1' h2'
   have hll:ls.length=k:=hsq.out.1
   rw [hu,hus] at hinv
   have i2:(k:Int) < (qs.length:Int):=by omega
   clear he hmem
   go_wp2
   refine chn.region (ws:=wsqu gn w.heap.size q0 qs.length qc k v #[.string nm,.int .i64 nx,.slice (some ⟨gr,0,none⟩) rs.length rc,.slice (some ⟨gh,0,none⟩) hs.length hc]) (js:=[7,8,9,11]) (S:=Squ w es bs qs ts a0 b0 q0 t0 ec bc qc tc g1 c1 h1 c2 gn S0 v u ls us ⟨nm,nx,some ⟨gr,0,none⟩,rc,rs,some ⟨gh,0,none⟩,hc,hs⟩) [17,18,19,20,21,22,23,24,25,26,27] ⟨⟨nm,nx,some ⟨gr,0,none⟩,rc,rs,some ⟨gh,0,none⟩,hc,hs⟩,0,undef⟩ (by kernel_rfl) (by kernel_rfl) (fun _=>rfl) (by kernel_rfl) (by decide) (hinv.out.on (Below.refl _ _).drew) ?eachqu ?finqu
   case eachqu =>
    refine ⟨chn.quiet 4 rfl (by decide) (.inl rfl) (by simp) (fun s=>.pointer (some ⟨gn,2,none⟩)) (by rintro s _ ⟨⟩; exact dk.sets_on _ (by simp) _ rfl) (fun s k' W hk' hS=>by simp [execOp,go_sem,Act.eval,dk.sets_get,wsqu,List.lookup]),?_⟩
    refine ⟨chn.quiet 2 rfl (by decide) (.inr ⟨9,_,rfl,rfl,⟨1,.data⟩,by simp,rfl,rfl⟩) (by simp) (fun s=>v) (by rintro s _ ⟨⟩; exact dk.sets_on _ (by simp) _ rfl) (fun s k' W hk' hS=>by have c:W.cell? ⟨gn,2,none⟩=some v:=bcell (out_qu hk' hS) rfl; simp [execOp,go_sem,Act.eval,dk.sets_get,wsqu,List.lookup,c]),?_⟩
    refine ⟨chn.quiet 4 rfl (by decide) (.inl rfl) (by simp) (fun s=>.pointer (some ⟨w.heap.size,2,none⟩)) (by rintro s _ ⟨⟩; exact dk.sets_on _ (by simp) _ rfl) (fun s k' W hk' hS=>by simp [execOp,go_sem,Act.eval,dk.sets_get,wsqu,List.lookup]),?_⟩
    refine ⟨chn.quiet 4 rfl (by decide) (.inl rfl) (by simp) (fun s=>.slice (some ⟨q0,0,none⟩) qs.length qc) (by rintro s _ ⟨⟩; exact dk.sets_on _ (by simp) _ rfl) (fun s k' W hk' hS=>by have c:W.cell? ⟨w.heap.size,2,none⟩=some (.slice (some ⟨q0,0,none⟩) qs.length qc):=bcell (box_qu hS) rfl; simp [execOp,go_sem,Act.eval,dk.sets_get,wsqu,List.lookup,c]),?_⟩
    refine ⟨chn.quiet 4 rfl (by decide) (.inl rfl) (by simp) (fun s=>.int .i64 k) (by rintro s _ ⟨⟩; exact dk.sets_on _ (by simp) _ rfl) (fun s k' W hk' hS=>by simp [execOp,go_sem,Act.eval,dk.sets_get,wsqu,List.lookup]),?_⟩
    refine ⟨chn.quiet 4 rfl (by decide) (.inl rfl) (by simp) (fun s=>.pointer (some ⟨q0,k*4,none⟩)) (by rintro s _ ⟨⟩; exact dk.sets_on _ (by simp) _ rfl) (fun s k' W hk' hS=>by simp [execOp,go_sem,Act.eval,dk.sets_get,wsqu,List.lookup,hkl]),?_⟩
    refine ⟨chn.quiet 0 rfl (by decide) (.inr ⟨7,_,rfl,rfl,⟨6,.data⟩,by simp,rfl,rfl⟩) (by simp) (fun s=>.agg #[.string nm,.int .i64 nx,.slice (some ⟨gr,0,none⟩) rs.length rc,.slice (some ⟨gh,0,none⟩) hs.length hc]) (by rintro s _ ⟨⟩; exact dk.sets_on _ (by simp) _ rfl) (fun s k' W hk' hS=>by obtain rfl:k'=0:=(by omega); have hS':Kv w es bs qs ts a0 b0 q0 t0 ec bc qc tc g1 c1 h1 c2 gn S0 v u v u ls us W:=hS; have hR':=(HQ.out.below hS'.bel).2 k _ HG.out; have d0:=hR'.1; have d1:=hR'.2.1; have d2:=hR'.2.2.1; have d3:=hR'.2.2.2; simp only at d0 d1 d2 d3; simp [execOp,go_sem,Act.eval,dk.sets_get,wsqu,List.lookup,d0,d1,d2,d3]),?_⟩
    refine ⟨chn.call 0 rfl (by decide) rfl (.inl rfl) (by simp) 42 #[.agg #[.string nm,.int .i64 nx,.slice (some ⟨gr,0,none⟩) rs.length rc,.slice (some ⟨gh,0,none⟩) hs.length hc]] (fun s W hS=>by have hS':Kv w es bs qs ts a0 b0 q0 t0 ec bc qc tc g1 c1 h1 c2 gn S0 v u v u ls us W:=hS; exact ⟨by simp [go_sem,Act.eval,dk.sets_get,wsqu,List.lookup],(qsp.spec_copy nm nx rs hs gr gh rc hc W f (row_on r1 hS'.bel) (row_on r2 hS'.bel)).mono fun e w1 hh=>by obtain ⟨g,c1',h,c2',he,o1,o2,_,hb⟩:=hh; exact ⟨{ s with m:=⟨nm,nx,some ⟨g,0,none⟩,c1',rs,some ⟨h,0,none⟩,c2',hs⟩ },_,he,dk.agree_sets 7 24 _ rfl rfl rfl,(by rintro _ ⟨⟩; exact dk.sets_on _ (by simp) _ rfl),hS'.on hb,⟨g,h,rfl,rfl,own_lo o1 hS'.hs,own_lo o2 hS'.hs⟩,⟨rfl,rfl,rfl,rfl⟩⟩⟩),?_⟩
    refine ⟨chn.eff 1 rfl (by decide) rfl (.inr ⟨⟨7,.data⟩,by simp,rfl,rfl⟩) (by simp) (fun s W hS=>by obtain ⟨h1,h2,h3⟩:Kv w es bs qs ts a0 b0 q0 t0 ec bc qc tc g1 c1 h1 c2 gn S0 v u v u ls us W/\Mqu W S0 s.m/\qu.same s.m _:=hS; have hb:Below W.heap.size W (W.alloc (.cells (qu.c s.m).toArray 58)):=(Below.refl _ _).alloc (Nat.le_refl _) _; exact ⟨{ s with a:=W.heap.size },.slice (some ⟨W.heap.size,0,none⟩) 1 1,dk.agree_sets 8 25 _ rfl rfl rfl,(by rintro _ ⟨⟩; exact dk.sets_on _ (by simp) _ rfl),chn.val (w':=W.alloc (.cells (qu.c s.m).toArray 58)) (by simp [execOp,go_sem,Act.eval,dk.sets_get,wsqu,List.lookup,qu.c]) ⟨h1.on hb,h2.keep (fun B n q T v xs ho _ _ _=>su.own_stays ho hb),h3,bnew W _ _⟩⟩),?_⟩
    refine ⟨chn.eff 2 rfl (by decide) rfl (.inr ⟨⟨8,.data⟩,by simp,rfl,rfl⟩) (by simp) (fun s W hS=>by obtain ⟨h1,h2,h3,h4⟩:Kv w es bs qs ts a0 b0 q0 t0 ec bc qc tc g1 c1 h1 c2 gn S0 v u v u ls us W/\Mqu W S0 s.m/\qu.same s.m _/\W.heap[s.a]?=some (.cells (qu.c s.m).toArray 58 (0,0)):=hS; obtain ⟨x',W',hr,hK⟩:=h1.app_qu hS0 (by omega) h4 h2 35; exact ⟨{ s with x:=x' },x',dk.agree_sets 9 26 _ rfl rfl rfl,(by rintro _ ⟨⟩; exact dk.sets_on _ (by simp) _ rfl),chn.val (w':=W') (app_run rfl (dk.eval_on _ _ (by simp) rfl) (dk.eval_on _ _ (by simp) rfl) hr) ⟨hK,h3⟩⟩),?_⟩
    refine ⟨chn.quiet 4 rfl (by decide) (.inl rfl) (by simp) (fun s=>.pointer (some ⟨gn,2,none⟩)) (by rintro s _ ⟨⟩; exact dk.sets_on _ (by simp) _ rfl) (fun s k' W hk' hS=>by simp [execOp,go_sem,Act.eval,dk.sets_get,wsqu,List.lookup]),?_⟩
    refine ⟨chn.sto 3 rfl (by decide) rfl (.inr ⟨⟨9,.data⟩,by simp,rfl,rfl⟩) (by simp) rfl (fun s W hS=>by obtain ⟨h1,h2⟩:Kv w es bs qs ts a0 b0 q0 t0 ec bc qc tc g1 c1 h1 c2 gn S0 v u s.x u (ls++[s.m]) us W/\qu.same s.m _:=hS; have c:=bcell (j:=2) (v:=v) h1.gnb rfl; have z:=bfree h1.gnb 2; obtain ⟨xb,xc,hx⟩:=own_form h1.qo; exact ⟨W.setCell ⟨gn,2,none⟩ s.x,by simp [execOp,go_sem,Act.eval,dk.sets_get,wsqu,List.lookup,hx,c,z],h1.put_qu,h2⟩),trivial⟩
   case finqu =>
    intro s W hS
    obtain ⟨hK,hsm⟩:Kv w es bs qs ts a0 b0 q0 t0 ec bc qc tc g1 c1 h1 c2 gn S0 s.x u s.x u (ls++[s.m]) us W/\qu.same s.m _:=hS
    rw [<- hu,<- hus] at hK
    have HN:Hid (Kv w es bs qs ts a0 b0 q0 t0 ec bc qc tc g1 c1 h1 c2 gn S0 s.x (.slice none 0 0) s.x (.slice none 0 0) (ls++[s.m]) [] W):=hK
    have HS:Hid (Sq qs (ls++[s.m]) (k+1)):=hsq.out.more HG.out hsm
    simp only [dk.sets,wsqu]
    clear hK hsm hinv hu hus
    go_wp2
    go_roundw
    case rel=>exact ⟨k+1,_,_,by omega,by go_num,HS,HN⟩
    case measure=>simp [intOf]; omega
  ·obtain rfl:k=qs.length:=by omega
   have HI2:Hid (Kv w es bs qs ts a0 b0 q0 t0 ec bc qc tc g1 c1 h1 c2 gn S0 v (.slice none 0 0) v (.slice none 0 0) ls [] wr):=hinv
   have xt:wr.cell? ⟨w.heap.size,3,none⟩=some (.slice (some ⟨t0,0,none⟩) ts.length tc):=bcell hinv.out.box rfl
   clear hu hus hinv hk u us
   obtain ⟨w9,hw9⟩:∃ w9,wr=w9:=⟨_,rfl⟩
   subst hw9
   go_wp2
   go_loopw [5] (fun i wr=>∃ (k:Nat) (u:Value) (us:List su.E),k <= ts.length/\i=.int .i64 k/\Hid (St ts us k)/\Hid (Kv w es bs qs ts a0 b0 q0 t0 ec bc qc tc g1 c1 h1 c2 gn S0 v u v u ls us wr)) (fun i _=>ts.length - (intOf i).toNat)
   case atStart=>exact ⟨0,_,[],Nat.zero_le _,rfl,⟨rfl,fun i r s hr=>by simp at hr⟩,HI2⟩
   case round =>
    obtain ⟨k,u,us,hk,rfl,hst,hinv⟩:=hrel
    have xs:wr.cell? ⟨w.heap.size,3,none⟩=some (.slice (some ⟨t0,0,none⟩) ts.length tc):=bcell hinv.out.box rfl
    clear HI2 xt xq
    by_cases hkl:k < ts.length
    ·have HG:Hid (ts[k]?=some ts[k]):=List.getElem?_eq_getElem hkl
     have hmem:ts[k] ∈ ts:=List.getElem_mem hkl
     obtain ⟨⟨nm,lo,nx,ra,rc,rs,ha,hc,hs⟩,he⟩:∃ e,ts[k]=e:=⟨_,rfl⟩
     rw [he] at HG hmem
     obtain ⟨gr,gh,h1',h2',r1,r2⟩:=HTR.out _ hmem
     have f:=HF.out.tf _ hmem
     simp only at h1' h2' r1 r2 f
     subst h1' h2'
     have hll:us.length=k:=hst.out.1
     have i2:(k:Int) < (ts.length:Int):=by omega
     clear he hmem
     go_wp2
     refine chn.region (ws:=wssu gn w.heap.size t0 ts.length tc k u #[.string nm,.int .i64 lo,.int .i64 nx,.slice (some ⟨gr,0,none⟩) rs.length rc,.slice (some ⟨gh,0,none⟩) hs.length hc]) (js:=[7,8,9,11]) (S:=Ssu w es bs qs ts a0 b0 q0 t0 ec bc qc tc g1 c1 h1 c2 gn S0 v u ls us ⟨nm,lo,nx,some ⟨gr,0,none⟩,rc,rs,some ⟨gh,0,none⟩,hc,hs⟩) [35,36,37,38,39,40,41,42,43,44,45] ⟨⟨nm,lo,nx,some ⟨gr,0,none⟩,rc,rs,some ⟨gh,0,none⟩,hc,hs⟩,0,undef⟩ (by kernel_rfl) (by kernel_rfl) (fun _=>rfl) (by kernel_rfl) (by decide) (hinv.out.on (Below.refl _ _).drew) ?eachsu ?finsu
     case eachsu =>
      refine ⟨chn.quiet 4 rfl (by decide) (.inl rfl) (by simp) (fun s=>.pointer (some ⟨gn,3,none⟩)) (by rintro s _ ⟨⟩; exact dk.sets_on _ (by simp) _ rfl) (fun s k' W hk' hS=>by simp [execOp,go_sem,Act.eval,dk.sets_get,wssu,List.lookup]),?_⟩
      refine ⟨chn.quiet 2 rfl (by decide) (.inr ⟨9,_,rfl,rfl,⟨1,.data⟩,by simp,rfl,rfl⟩) (by simp) (fun s=>u) (by rintro s _ ⟨⟩; exact dk.sets_on _ (by simp) _ rfl) (fun s k' W hk' hS=>by have c:W.cell? ⟨gn,3,none⟩=some u:=bcell (out_su hk' hS) rfl; simp [execOp,go_sem,Act.eval,dk.sets_get,wssu,List.lookup,c]),?_⟩
      refine ⟨chn.quiet 4 rfl (by decide) (.inl rfl) (by simp) (fun s=>.pointer (some ⟨w.heap.size,3,none⟩)) (by rintro s _ ⟨⟩; exact dk.sets_on _ (by simp) _ rfl) (fun s k' W hk' hS=>by simp [execOp,go_sem,Act.eval,dk.sets_get,wssu,List.lookup]),?_⟩
      refine ⟨chn.quiet 4 rfl (by decide) (.inl rfl) (by simp) (fun s=>.slice (some ⟨t0,0,none⟩) ts.length tc) (by rintro s _ ⟨⟩; exact dk.sets_on _ (by simp) _ rfl) (fun s k' W hk' hS=>by have c:W.cell? ⟨w.heap.size,3,none⟩=some (.slice (some ⟨t0,0,none⟩) ts.length tc):=bcell (box_su hS) rfl; simp [execOp,go_sem,Act.eval,dk.sets_get,wssu,List.lookup,c]),?_⟩
      refine ⟨chn.quiet 4 rfl (by decide) (.inl rfl) (by simp) (fun s=>.int .i64 k) (by rintro s _ ⟨⟩; exact dk.sets_on _ (by simp) _ rfl) (fun s k' W hk' hS=>by simp [execOp,go_sem,Act.eval,dk.sets_get,wssu,List.lookup]),?_⟩
      refine ⟨chn.quiet 4 rfl (by decide) (.inl rfl) (by simp) (fun s=>.pointer (some ⟨t0,k*5,none⟩)) (by rintro s _ ⟨⟩; exact dk.sets_on _ (by simp) _ rfl) (fun s k' W hk' hS=>by simp [execOp,go_sem,Act.eval,dk.sets_get,wssu,List.lookup,hkl]),?_⟩
      refine ⟨chn.quiet 0 rfl (by decide) (.inr ⟨7,_,rfl,rfl,⟨6,.data⟩,by simp,rfl,rfl⟩) (by simp) (fun s=>.agg #[.string nm,.int .i64 lo,.int .i64 nx,.slice (some ⟨gr,0,none⟩) rs.length rc,.slice (some ⟨gh,0,none⟩) hs.length hc]) (by rintro s _ ⟨⟩; exact dk.sets_on _ (by simp) _ rfl) (fun s k' W hk' hS=>by obtain rfl:k'=0:=(by omega); have hS':Kv w es bs qs ts a0 b0 q0 t0 ec bc qc tc g1 c1 h1 c2 gn S0 v u v u ls us W:=hS; have hR':=(HT.out.below hS'.bel).2 k _ HG.out; have d0:=hR'.1; have d1:=hR'.2.1; have d2:=hR'.2.2.1; have d3:=hR'.2.2.2.1; have d4:=hR'.2.2.2.2; simp only at d0 d1 d2 d3 d4; simp [execOp,go_sem,Act.eval,dk.sets_get,wssu,List.lookup,d0,d1,d2,d3,d4]),?_⟩
      refine ⟨chn.call 0 rfl (by decide) rfl (.inl rfl) (by simp) 43 #[.agg #[.string nm,.int .i64 lo,.int .i64 nx,.slice (some ⟨gr,0,none⟩) rs.length rc,.slice (some ⟨gh,0,none⟩) hs.length hc]] (fun s W hS=>by have hS':Kv w es bs qs ts a0 b0 q0 t0 ec bc qc tc g1 c1 h1 c2 gn S0 v u v u ls us W:=hS; exact ⟨by simp [go_sem,Act.eval,dk.sets_get,wssu,List.lookup],(scp.spec_copy nm lo nx rs hs gr gh rc hc W f (r1.below hS'.bel) (r2.below hS'.bel)).mono fun e w1 hh=>by obtain ⟨g,c1',h,c2',he,o1,o2,_,hb⟩:=hh; exact ⟨{ s with m:=⟨nm,lo,nx,some ⟨g,0,none⟩,c1',rs,some ⟨h,0,none⟩,c2',hs⟩ },_,he,dk.agree_sets 7 42 _ rfl rfl rfl,(by rintro _ ⟨⟩; exact dk.sets_on _ (by simp) _ rfl),hS'.on hb,⟨g,h,rfl,rfl,own_lo o1 hS'.hs,own_lo o2 hS'.hs⟩,⟨rfl,rfl,rfl,rfl,rfl⟩⟩⟩),?_⟩
      refine ⟨chn.eff 1 rfl (by decide) rfl (.inr ⟨⟨7,.data⟩,by simp,rfl,rfl⟩) (by simp) (fun s W hS=>by obtain ⟨h1,h2,h3⟩:Kv w es bs qs ts a0 b0 q0 t0 ec bc qc tc g1 c1 h1 c2 gn S0 v u v u ls us W/\Msu W S0 s.m/\su.same s.m _:=hS; have hb:Below W.heap.size W (W.alloc (.cells (su.c s.m).toArray 54)):=(Below.refl _ _).alloc (Nat.le_refl _) _; exact ⟨{ s with a:=W.heap.size },.slice (some ⟨W.heap.size,0,none⟩) 1 1,dk.agree_sets 8 43 _ rfl rfl rfl,(by rintro _ ⟨⟩; exact dk.sets_on _ (by simp) _ rfl),chn.val (w':=W.alloc (.cells (su.c s.m).toArray 54)) (by simp [execOp,go_sem,Act.eval,dk.sets_get,wssu,List.lookup,su.c]) ⟨h1.on hb,h2.keep (fun B n q T v xs ho _ _ _=>su.own_stays ho hb),h3,bnew W _ _⟩⟩),?_⟩
      refine ⟨chn.eff 2 rfl (by decide) rfl (.inr ⟨⟨8,.data⟩,by simp,rfl,rfl⟩) (by simp) (fun s W hS=>by obtain ⟨h1,h2,h3,h4⟩:Kv w es bs qs ts a0 b0 q0 t0 ec bc qc tc g1 c1 h1 c2 gn S0 v u v u ls us W/\Msu W S0 s.m/\su.same s.m _/\W.heap[s.a]?=some (.cells (su.c s.m).toArray 54 (0,0)):=hS; obtain ⟨x',W',hr,hK⟩:=h1.app_su hS0 (by omega) h4 h2 36; exact ⟨{ s with x:=x' },x',dk.agree_sets 9 44 _ rfl rfl rfl,(by rintro _ ⟨⟩; exact dk.sets_on _ (by simp) _ rfl),chn.val (w':=W') (app_run rfl (dk.eval_on _ _ (by simp) rfl) (dk.eval_on _ _ (by simp) rfl) hr) ⟨hK,h3⟩⟩),?_⟩
      refine ⟨chn.quiet 4 rfl (by decide) (.inl rfl) (by simp) (fun s=>.pointer (some ⟨gn,3,none⟩)) (by rintro s _ ⟨⟩; exact dk.sets_on _ (by simp) _ rfl) (fun s k' W hk' hS=>by simp [execOp,go_sem,Act.eval,dk.sets_get,wssu,List.lookup]),?_⟩
      refine ⟨chn.sto 3 rfl (by decide) rfl (.inr ⟨⟨9,.data⟩,by simp,rfl,rfl⟩) (by simp) rfl (fun s W hS=>by obtain ⟨h1,h2⟩:Kv w es bs qs ts a0 b0 q0 t0 ec bc qc tc g1 c1 h1 c2 gn S0 v u v s.x ls (us++[s.m]) W/\su.same s.m _:=hS; have c:=bcell (j:=3) (v:=u) h1.gnb rfl; have z:=bfree h1.gnb 3; obtain ⟨xb,xc,hx⟩:=own_form h1.so; exact ⟨W.setCell ⟨gn,3,none⟩ s.x,by simp [execOp,go_sem,Act.eval,dk.sets_get,wssu,List.lookup,hx,c,z],h1.put_su,h2⟩),trivial⟩
     case finsu =>
      intro s W hS
      obtain ⟨hK,hsm⟩:Kv w es bs qs ts a0 b0 q0 t0 ec bc qc tc g1 c1 h1 c2 gn S0 v s.x v s.x ls (us++[s.m]) W/\su.same s.m _:=hS
      have HN:Hid (Kv w es bs qs ts a0 b0 q0 t0 ec bc qc tc g1 c1 h1 c2 gn S0 v s.x v s.x ls (us++[s.m]) W):=hK
      have HS:Hid (St ts (us++[s.m]) (k+1)):=hst.out.more HG.out hsm
      simp only [dk.sets,wssu]
      clear hK hsm hinv
      go_wp2
      go_roundw
      case rel=>exact ⟨k+1,_,_,by omega,by go_num,HS,HN⟩
      case measure=>simp [intOf]; omega
    ·obtain rfl:k=ts.length:=by omega
     have hI:=hinv.out
     obtain ⟨n0,n1,n2,n3⟩:=fl.q4 hI.gnb
     obtain ⟨vb,vc,hv⟩:∃ vb vc,v=.slice vb ls.length vc:=own_form hI.qo
     obtain ⟨ub,uc,hu⟩:∃ ub uc,u=.slice ub us.length uc:=own_form hI.so
     rw [hv] at n2
     rw [hu] at n3
     obtain ⟨z0,z1,z2,z3⟩:=fl.q4 hI.res
     obtain ⟨f0,f1,f2,f3⟩:=fl.r4 hI.res
     have HSM:Hid (cb.Same qs ls ts us):=⟨hsq.out.1,hst.out.1,hsq.out.2,hst.out.2⟩
     have HFN:=Kv.fin hI hS2
     rw [hv,hu] at HFN
     clear hI hinv hv hu hsq hst
     go_wp2
     exact bodyPost_ret (v:=.agg #[.slice (some ⟨g1,0,none⟩) es.length c1,.slice (some ⟨h1,0,none⟩) bs.length c2,.slice vb ls.length vc,.slice ub us.length uc]) (by simp [results,Tryz.results14,go_sem,z0,z1,z2,z3]) rfl ⟨g1,c1,h1,c2,gn,S0,_,_,ls,us,rfl,HSM,HFN⟩
end Go.Proofs.YtaoefccgdfcchaaGreat.scc
