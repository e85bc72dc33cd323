/- InsertQueue, InsertStream. -/
import Derived.Test.YtaoefccgdfcchaaGreatKq23
import Derived.Test.YtaoefccgdfcchaaGreatKq07
import Derived.Test.YtaoefccgdfcchaaGreatKq20
import Derived.Deep.DeepAppendWide
import Derived.Laws.CopyOwn
import Derived.Test.YtaoefccgdfcchaaGreatKq09
set_option maxRecDepth 100000
set_option maxHeartbeats 8000000
set_option linter.unusedVariables false
namespace Go.Proofs.YtaoefccgdfcchaaGreat.inq
open ChangeShapes WideShapes ChangeAt RowKit fl
theorem infoX:∃ i0,Tryz.prog.info? 58=some i0/\i0.zero=some (.agg #[.string ByteArray.empty,.int .i64 0,.slice none 0 0,.slice none 0 0])/\i0.size=4/\i0.bytes=72:=by
 have h:(Tryz.prog.info? 58).map (fun i=>(i.zero,i.size,i.bytes))=some (some (.agg #[.string ByteArray.empty,.int .i64 0,.slice none 0 0,.slice none 0 0]),4,72):=by kernel_rfl
 cases hh:Tryz.prog.info? 58 with
 | none=>rw [hh] at h; cases h
 | some i=>rw [hh] at h; simp at h; exact ⟨i,rfl,h.1,h.2.1,h.2.2⟩
theorem own_form {w:World} {B n:Nat} {U:TypeId} {s:Nat} {v:Value} {xs:List Value} (h:w.ownsRow B U s v (n+1) xs):∃ g cap,v=.slice (some ⟨g,0,none⟩) (n+1) cap:=by
 obtain ⟨_,⟨rfl,h0⟩ | ⟨g,cap,cur,rfl,_⟩⟩:=h
 ·omega
 ·exact ⟨g,cap,rfl⟩
theorem owns_at {w:World} {B n s g c:Nat} {U:TypeId} {xs:List Value} (h:w.ownsRow B U s (.slice (some ⟨g,0,none⟩) n c) n xs):B <= g/\∃ cur,w.heap[g]?=some (.cells cur U (0,0)):=by
 obtain ⟨_,⟨h1,_⟩ | ⟨g',cap',cur,h1,h2,h3,_⟩⟩:=h
 ·cases h1
 cases h1
 exact ⟨h2,cur,h3⟩
theorem add_at (g o j:Nat):(⟨g,o,none⟩:Addr).add j=⟨g,o+j,none⟩:=by unfold Addr.add; split <;> simp_all
theorem oneX (ms:List qu.E):∀ u ∈ ms.flatMap qu.c,u.oneCell'=true:=fun u hu=>by
 obtain ⟨e,_,he⟩:=List.mem_flatMap.1 hu
 simp [qu.c] at he
 rcases he with rfl | rfl | rfl | rfl <;> rfl
theorem owns_cells {α:Type} {c:α->List Value} {n B g cap:Nat} {U:TypeId} {l:List α} {w:World} (hn:∀ e,(c e).length=n) (h:w.ownsRow B U n (.slice (some ⟨g,0,none⟩) l.length cap) l.length (l.flatMap c)):∀ (j:Nat) (u:Value),(l.flatMap c)[j]?=some u->w.cell? ⟨g,j,none⟩=some u:=fun j u hu=>by
 obtain ⟨_,⟨h1,_⟩ | ⟨g',cap',cur,h1,h2,h3,h4,h5,h6,h7⟩⟩:=h
 ·cases h1
 cases h1
 rw [<- h7] at hu
 have hlt:=(List.getElem?_eq_some_iff.1 hu).1
 rw [List.length_take] at hlt
 rw [List.getElem?_take_of_lt (by omega)] at hu
 exact bcell h3 (by simpa using hu)
theorem flat_take {α:Type} {c:α->List Value} (l:List α) (i:Nat):(l.take i).flatMap c++(l.drop i).flatMap c=l.flatMap c:=by rw [<- List.flatMap_append,List.take_append_drop]
theorem two_copies {xs v cs rest:List Value} {o1 o2:Nat} (h1:xs.length=o1) (h2:o1+v.length=o2) (hr:v.length+cs.length <= rest.length) :
  (((xs++rest).take o1++v++(xs++rest).drop (o1+v.length)).take o2++cs++((xs++rest).take o1++v++(xs++rest).drop (o1+v.length)).drop (o2+cs.length))=xs++v++cs++rest.drop (v.length+cs.length):=by
 subst h1
 subst h2
 rw [List.take_left,List.drop_append,List.drop_eq_nil_of_le (by omega),List.nil_append,show xs.length+v.length - xs.length=v.length by omega]
 have e1:(xs++v).length=xs.length+v.length:=List.length_append
 rw [<- e1,List.take_left,List.drop_append,List.drop_eq_nil_of_le (by omega),List.nil_append,List.drop_drop]
 congr 2
 omega
theorem owns_new {B g cap n:Nat} {U:TypeId} {w:World} {cur:Array Value} {ys tl:List Value} (hg:w.heap[g]?=some (.cells cur U (0,0))) (hB:B <= g) (hc:cur.toList=ys++tl) (hy:ys.length=n*4) (hn:n <= cap) (hm:cap <= maxLen) (hs:cur.size=cap*4):w.ownsRow B U 4 (.slice (some ⟨g,0,none⟩) n cap) n ys :=
 ⟨hy,.inr ⟨g,cap,cur,rfl,hB,hg,hn,hm,hs,by rw [hc,<- hy,List.take_left]⟩⟩
def ws (b g i n G:Nat):List (Nat × Value):=[(46,.slice (some ⟨b,0,none⟩) (n+1) G),(47,.int .i64 i),(48,.int .i64 1),(49,.int .i64 ((i:Int)+1)),(50,.slice (some ⟨b,(i+1)*4,none⟩) (n - i) (G - (i+1))),(51,.slice (some ⟨g,0,none⟩) n n),(52,.int .i64 i),(53,.slice (some ⟨g,i*4,none⟩) (n - i) (n - i)),(54,.int .i64 ((n - i:Nat):Int))]
theorem insert_mid (l:List qu.E) (g i B:Nat) (bn:ByteArray) (ga:Nat) (w:World) (hi:i < l.length) (hl:l.length <= 1048576) (hB:B <= w.heap.size) (ho:w.ownsRow B 58 4 (.slice (some ⟨g,0,none⟩) l.length l.length) l.length (l.flatMap qu.c)) (ha:w.heap[ga]?=some (.cells #[.string bn,.int .i64 1,.slice none 0 0,.slice none 0 0] 58 (0,0))) :
  Calls Tryz.prog 27 #[.slice (some ⟨g,0,none⟩) l.length l.length,.int .i64 i,.slice (some ⟨ga,0,none⟩) 1 1] w fun r w'=>∃ g2 c2,r=.returned (.slice (some ⟨g2,0,none⟩) (l.length+1) c2)/\w'.ownsRow B 58 4 (.slice (some ⟨g2,0,none⟩) (l.length+1) c2) (l.length+1) ((l.take i++⟨bn,1,none,0,[],none,0,[]⟩ :: l.drop i).flatMap qu.c)/\Below w.heap.size w w':=by
 obtain ⟨i1,ki,kz0,kz1,kz2⟩:=infoX
 have hcells:=owns_cells qu.c_len ho
 have hgl:g < w.heap.size:=by obtain ⟨_,cur,hcur⟩:=owns_at ho; exact (Array.getElem?_eq_some_iff.1 hcur).1
 have hgal:=(Array.getElem?_eq_some_iff.1 ha).1
 obtain ⟨n,hn⟩:∃ n,l.length=n:=⟨_,rfl⟩
 have hxl:((l.take i).flatMap qu.c).length=i*4:=by rw [flat_len qu.c_len,List.length_take]; congr 1; omega
 have hdl:((l.drop i).flatMap qu.c).length=(n - i)*4:=by rw [flat_len qu.c_len,List.length_drop,hn]
 have hxc:∀ (j:Nat) (u:Value),((l.take i).flatMap qu.c)[j]?=some u->w.cell? ((⟨g,0,none⟩:Addr).add j)=some u:=fun j u hu=>by
  rw [add_at,Nat.zero_add]
  refine hcells j u ?_
  rw [<- flat_take l i,List.getElem?_append_left (List.getElem?_eq_some_iff.1 hu).1]
  exact hu
 have hdc:∀ (j:Nat) (u:Value),((l.drop i).flatMap qu.c)[j]?=some u->w.cell? ((⟨g,i*4,none⟩:Addr).add j)=some u:=fun j u hu=>by
  rw [add_at]
  refine hcells (i*4+j) u ?_
  rw [<- flat_take l i,List.getElem?_append_right (by rw [hxl]; omega),hxl,show i*4+j - i*4=j by omega]
  exact hu
 rw [hn] at hi hl
 simp only [hn]
 have hz:=fun ty=>az.run_append_zeros (P:=Tryz.prog) w 35 3 ty 58 i1 _ Tryz.underlying35 Tryz.underlying3 ki kz0 ⟨g,0,none⟩ i n ((l.take i).flatMap qu.c) (by rw [hxl,kz1]) hxc (n+1 - i) (by rw [kz1]; omega) (by omega) (by omega) (by rw [kz2]; omega) (by rw [kz2]; exact growslice_fits_wide (by omega) (by omega))
 rw [show i+(n+1 - i)=n+1 by omega] at hz
 have hG1:=grownCap_ge w (n+1) n 58
 have hG2:=grownCap_le_maxLen w (n+1) n 58 (by unfold maxLen; omega)
 obtain ⟨G,hG⟩:∃ G,grownCap w (n+1) n 58=G:=⟨_,rfl⟩
 rw [hG] at hz hG1 hG2
 obtain ⟨rest,hrest⟩:∃ rest:List Value,rest.length=(G - i)*4/\∀ zc:Array Value,zc=(Value.agg #[.string ByteArray.empty,.int .i64 0,.slice none 0 0,.slice none 0 0]).cells->(((l.take i).flatMap qu.c).toArray++Builtin.zeroCells zc (n+1 - i)++Builtin.zeroCells zc (G - (n+1)))=(((l.take i).flatMap qu.c)++rest).toArray:=by
  refine ⟨(Builtin.zeroCells (Value.agg #[.string ByteArray.empty,.int .i64 0,.slice none 0 0,.slice none 0 0]).cells (n+1 - i)++Builtin.zeroCells (Value.agg #[.string ByteArray.empty,.int .i64 0,.slice none 0 0,.slice none 0 0]).cells (G - (n+1))).toList,?_,?_⟩
  ·simp [size_zeroCells,Value.cells]; omega
  ·rintro zc rfl; simp
 have hrow:=hrest.2 _ rfl
 rw [hrow] at hz
 have hk:(n:Int)+1 - (i:Int)=((n+1 - i:Nat):Int):=by omega
 rw [<- hk] at hz
 obtain ⟨xs,hxs⟩:∃ xs,(l.take i).flatMap qu.c=xs:=⟨_,rfl⟩
 obtain ⟨cs,hcs⟩:∃ cs,(l.drop i).flatMap qu.c=cs:=⟨_,rfl⟩
 rw [hxs] at hz hxl
 rw [hcs] at hdl hdc
 have hfl:(l.take i++⟨bn,1,none,0,[],none,0,[]⟩ :: l.drop i).flatMap qu.c=xs++[Value.string bn,Value.int .i64 1,Value.slice none 0 0,Value.slice none 0 0]++cs:=by rw [<- hxs,<- hcs]; simp [qu.c]
 rw [hfl]
 have hone:∀ u ∈ cs,u.oneCell'=true:=by rw [<- hcs]; exact oneX _
 have hg1:(w.drew.alloc (.cells (xs++rest).toArray 58)).heap[w.heap.size]?=some (.cells (xs++rest).toArray 58 (0,0)):=bnew w.drew _ _
 have hb1:Below w.heap.size w (w.drew.alloc (.cells (xs++rest).toArray 58)):=(Below.refl _ w).drew.alloc (Nat.le_refl _) _
 obtain ⟨W1,hW1⟩:∃ W1,w.drew.alloc (.cells (xs++rest).toArray 58)=W1:=⟨_,rfl⟩
 rw [hW1] at hz hg1 hb1
 have hav:=bstay ha hb1 hgal
 have hrl:=hrest.1
 have hmin1:Nat.min 1 (n+1 - i)=1:=Nat.min_eq_left (by omega)
 have hmin2:Nat.min (n - i) (n - i)=n - i:=Nat.min_self _
 have hc1:=fun ty=>cpr.run_copy_rows (P:=Tryz.prog) W1 35 35 ty 58 i1 w.heap.size (i*4) (n+1 - i) (G - i) ⟨ga,0,none⟩ 1 1 (xs++rest).toArray 58 [Value.string bn,Value.int .i64 1,Value.slice none 0 0,Value.slice none 0 0] Tryz.underlying35 ki hg1 (by rw [kz1,hmin1]; rfl) (fun j u hu=>by
  rw [add_at,Nat.zero_add]
  match j,hu with
  | 0,hu=>cases hu; exact bcell hav rfl
  | 1,hu=>cases hu; exact bcell hav rfl
  | 2,hu=>cases hu; exact bcell hav rfl
  | 3,hu=>cases hu; exact bcell hav rfl
  | j+4,hu=>simp at hu) (by simp; omega) (by simp [Value.oneCell'])
 rw [hmin1] at hc1
 simp only [show ([Value.string bn,Value.int .i64 1,Value.slice none 0 0,Value.slice none 0 0]:List Value).length=4 from rfl] at hc1
 obtain ⟨A1,hA1⟩:∃ A1:List Value,(xs++rest).take (i*4)++[Value.string bn,Value.int .i64 1,Value.slice none 0 0,Value.slice none 0 0]++(xs++rest).drop (i*4+4)=A1:=⟨_,rfl⟩
 rw [hA1] at hc1
 have hA1l:A1.length=i*4+(G - i)*4:=by rw [<- hA1]; simp; omega
 have hg2:(W1.setRow w.heap.size A1.toArray).heap[w.heap.size]?=some (.cells A1.toArray 58 (0,0)):=setRow_heap W1 w.heap.size _ _ 58 _ hg1
 have hb2:Below w.heap.size w (W1.setRow w.heap.size A1.toArray):=below_setRow hb1 (Nat.le_refl _) _
 obtain ⟨W2,hW2⟩:∃ W2,W1.setRow w.heap.size A1.toArray=W2:=⟨_,rfl⟩
 rw [hW2] at hc1 hg2 hb2
 have hc2:=fun ty=>cpr.run_copy_rows (P:=Tryz.prog) W2.drew 35 35 ty 58 i1 w.heap.size ((i+1)*4) (n - i) (G - (i+1)) ⟨g,i*4,none⟩ (n - i) (n - i) A1.toArray 58 cs Tryz.underlying35 ki hg2 (by rw [kz1,hmin2,hdl]) (fun j u hu=>by
  have:=hdc j u hu
  rw [add_at] at this ⊢
  exact (hb2.drew.cell (p:=⟨g,i*4+j,none⟩) hgl).trans this) (by rw [hdl]; simp; omega) hone
 rw [hmin2] at hc2
 have hc2:=fun ty=>(hc2 ty).trans rfl
 have htwo:A1.take ((i+1)*4)++cs++A1.drop ((i+1)*4+cs.length)=xs++[Value.string bn,Value.int .i64 1,Value.slice none 0 0,Value.slice none 0 0]++cs++rest.drop (4+cs.length):=by
  rw [<- hA1]
  exact two_copies (v:=[Value.string bn,Value.int .i64 1,Value.slice none 0 0,Value.slice none 0 0]) hxl (by show i*4+4=(i+1)*4; omega) (by show 4+cs.length <= rest.length; omega)
 rw [htwo] at hc2
 have hg3:(W2.drew.setRow w.heap.size (xs++[Value.string bn,Value.int .i64 1,Value.slice none 0 0,Value.slice none 0 0]++cs++rest.drop (4+cs.length)).toArray).heap[w.heap.size]?=some (.cells (xs++[Value.string bn,Value.int .i64 1,Value.slice none 0 0,Value.slice none 0 0]++cs++rest.drop (4+cs.length)).toArray 58 (0,0)):=setRow_heap W2.drew w.heap.size _ _ 58 _ hg2
 have hb3:Below w.heap.size w (W2.drew.setRow w.heap.size (xs++[Value.string bn,Value.int .i64 1,Value.slice none 0 0,Value.slice none 0 0]++cs++rest.drop (4+cs.length)).toArray):=below_setRow hb2.drew (Nat.le_refl _) _
 have hown:(W2.drew.setRow w.heap.size (xs++[Value.string bn,Value.int .i64 1,Value.slice none 0 0,Value.slice none 0 0]++cs++rest.drop (4+cs.length)).toArray).ownsRow B 58 4 (.slice (some ⟨w.heap.size,0,none⟩) (n+1) G) (n+1) (xs++[Value.string bn,Value.int .i64 1,Value.slice none 0 0,Value.slice none 0 0]++cs) :=
  owns_new (tl:=rest.drop (4+cs.length)) hg3 hB (by simp) (by simp; omega) hG1 hG2 (by simp; omega)
 obtain ⟨W3,hW3⟩:∃ W3,W2.drew.setRow w.heap.size (xs++[Value.string bn,Value.int .i64 1,Value.slice none 0 0,Value.slice none 0 0]++cs++rest.drop (4+cs.length)).toArray=W3:=⟨_,rfl⟩
 rw [hW3] at hc2 hb3 hown
 have HB3:Hid (Below w.heap.size w W3):=hb3
 have HOWN:Hid (W3.ownsRow B 58 4 (.slice (some ⟨w.heap.size,0,none⟩) (n+1) G) (n+1) (xs++[Value.string bn,Value.int .i64 1,Value.slice none 0 0,Value.slice none 0 0]++cs)):=hown
 have i9:IntKind.i64.wrap ((i:Int)+1)=(i:Int)+1:=by rw [IntKind.wrap_i64]; omega
 have r1:i <= n:=by omega
 have r2:(0:Int) <= (i:Int)+1:=by omega
 have r3:¬ G=i+1:=by omega
 have r4:¬ n=i:=by omega
 have q1:¬ (i:Int)=(n:Int):=by omega
 have q2:i < G:=by omega
 have q3:i+1 < G:=by omega
 have q4:(n:Int) < (n:Int)+1:=by omega
 have q5:n - i ≠ 0:=by omega
 clear hcells hxc hdc ho ha hrest hrow hav hg1 hg2 hg3 hb1 hb2 hb3 hown hA1 htwo hW1 hW2 hW3 hone hfl hxs hcs hk hG
 go_enter Tryz.func27,Tryz.ntmps27
 go_wp2_with (at_builtin; first | refine cpr.wpList_append_run rfl _ _ 35 3 rfl _ _ _ rfl rfl (hz _) ?_ | refine cpr.wpList_copy_run rfl _ _ 35 35 rfl _ _ _ rfl rfl (hc1 _) ?_)
 refine dk.region_sets (ws w.heap.size g i n G) [46,47,48,49,50,51,52,53,54] (dk.Cl (fun b W=>W=if b then W3 else W2.drew) 8) (by kernel_rfl) (by kernel_rfl) rfl (by kernel_rfl) rfl ?each ?fin
 case each =>
  refine ⟨dk.q (by decide) (.slice (some ⟨w.heap.size,0,none⟩) (n+1) G) (by rintro _ ⟨⟩; exact dk.sets_on _ (by simp) _ rfl) (fun b W h=>by simp [execOp,go_sem,Act.eval,dk.sets_get,ws,List.lookup]),?_⟩
  refine ⟨dk.q (by decide) (.int .i64 i) (by rintro _ ⟨⟩; exact dk.sets_on _ (by simp) _ rfl) (fun b W h=>by simp [execOp,go_sem,Act.eval,dk.sets_get,ws,List.lookup]),?_⟩
  refine ⟨dk.q (by decide) (.int .i64 1) (by rintro _ ⟨⟩; exact dk.sets_on _ (by simp) _ rfl) (fun b W h=>by simp [execOp,go_sem,Act.eval,dk.sets_get,ws,List.lookup]),?_⟩
  refine ⟨dk.q (by decide) (.int .i64 ((i:Int)+1)) (by rintro _ ⟨⟩; exact dk.sets_on _ (by simp) _ rfl) (fun b W h=>by simp [execOp,go_sem,Act.eval,dk.sets_get,ws,List.lookup,i9]),?_⟩
  refine ⟨dk.q (by decide) (.slice (some ⟨w.heap.size,(i+1)*4,none⟩) (n - i) (G - (i+1))) (by rintro _ ⟨⟩; exact dk.sets_on _ (by simp) _ rfl) (fun b W h=>by simp [execOp,go_sem,Act.eval,dk.sets_get,ws,List.lookup,r1,r2,r3]),?_⟩
  refine ⟨dk.q (by decide) (.slice (some ⟨g,0,none⟩) n n) (by rintro _ ⟨⟩; exact dk.sets_on _ (by simp) _ rfl) (fun b W h=>by simp [execOp,go_sem,Act.eval,dk.sets_get,ws,List.lookup]),?_⟩
  refine ⟨dk.q (by decide) (.int .i64 i) (by rintro _ ⟨⟩; exact dk.sets_on _ (by simp) _ rfl) (fun b W h=>by simp [execOp,go_sem,Act.eval,dk.sets_get,ws,List.lookup]),?_⟩
  refine ⟨dk.q (by decide) (.slice (some ⟨g,i*4,none⟩) (n - i) (n - i)) (by rintro _ ⟨⟩; exact dk.sets_on _ (by simp) _ rfl) (fun b W h=>by simp [execOp,go_sem,Act.eval,dk.sets_get,ws,List.lookup,r1,r4]),?_⟩
  refine ⟨cpr.lastv (.int .i64 ((n - i:Nat):Int)) (by rintro _ ⟨⟩; exact dk.sets_on _ (by simp) _ rfl) (fun W h=>?_),trivial⟩
  obtain rfl:W=W2.drew:=h
  refine ⟨W3,?_,rfl⟩
  simp [execOp,resolve,invoke,builtin,Act.eval,dk.sets_get,ws,List.lookup,hc2]
  rfl
 case fin =>
  intro L W hL hC
  obtain rfl:W=W3:=by
   have h8:=hL 8 (by decide)
   unfold dk.Cl at hC
   rw [h8] at hC
   exact hC
  simp only [dk.sets,ws]
  go_wp2
  go_ret
  exact ⟨_,_,rfl,HOWN.out,HB3.out⟩
theorem insert_end (l:List qu.E) (g B:Nat) (bn:ByteArray) (ga:Nat) (w:World) (hl:l.length <= 1048576) (hB:B <= w.heap.size) (ho:w.ownsRow B 58 4 (.slice (some ⟨g,0,none⟩) l.length l.length) l.length (l.flatMap qu.c)) (ha:w.heap[ga]?=some (.cells #[.string bn,.int .i64 1,.slice none 0 0,.slice none 0 0] 58 (0,0))) :
  Calls Tryz.prog 27 #[.slice (some ⟨g,0,none⟩) l.length l.length,.int .i64 l.length,.slice (some ⟨ga,0,none⟩) 1 1] w fun r w'=>∃ g2 c2,r=.returned (.slice (some ⟨g2,0,none⟩) (l.length+1) c2)/\w'.ownsRow B 58 4 (.slice (some ⟨g2,0,none⟩) (l.length+1) c2) (l.length+1) ((l++[(⟨bn,1,none,0,[],none,0,[]⟩:qu.E)]).flatMap qu.c)/\w.grownBy w' (some g):=by
 obtain ⟨i1,ki,kz0,kz1,kz2⟩:=infoX
 have hfl:(l++[(⟨bn,1,none,0,[],none,0,[]⟩:qu.E)]).flatMap qu.c=l.flatMap qu.c++[Value.string bn,Value.int .i64 1,Value.slice none 0 0,Value.slice none 0 0]:=by rw [List.flatMap_append]; simp [qu.c]
 rw [hfl]
 have hnw:∀ (j:Nat) (u:Value),[Value.string bn,Value.int .i64 1,Value.slice none 0 0,Value.slice none 0 0][j]?=some u->w.cell? ((⟨ga,0,none⟩:Addr).add j)=some u:=fun j u hu=>by
  rw [add_at,Nat.zero_add]
  match j,hu with
  | 0,hu=>cases hu; exact bcell ha rfl
  | 1,hu=>cases hu; exact bcell ha rfl
  | 2,hu=>cases hu; exact bcell ha rfl
  | 3,hu=>cases hu; exact bcell ha rfl
  | j+4,hu=>simp at hu
 clear hfl ha
 go_enter Tryz.func27,Tryz.ntmps27
 go_wp2_with (at_builtin; refine wpList_append_own _ rfl _ _ 35 rfl B 58 i1 (.agg #[.string ByteArray.empty,.int .i64 0,.slice none 0 0,.slice none 0 0]) 4 72 Tryz.underlying35 ki kz0 kz1 kz2 rfl (by decide) _ _ _ rfl ho ⟨ga,0,none⟩ 1 1 [Value.string bn,Value.int .i64 1,Value.slice none 0 0,Value.slice none 0 0] rfl rfl hnw (by simp [Value.oneCell']) (by unfold maxLen; omega) (by omega) hB ?_)
 intro v' w' hown hgrow _
 obtain ⟨g2,c2,rfl⟩:=own_form hown
 have HO:Hid (w'.ownsRow B 58 4 (.slice (some ⟨g2,0,none⟩) (l.length+1) c2) (l.length+1) (l.flatMap qu.c++[Value.string bn,Value.int .i64 1,Value.slice none 0 0,Value.slice none 0 0])):=hown
 have HG:Hid (w.grownBy w' (some g)):=hgrow
 clear hown hgrow ho hnw
 go_wp2
 go_ret
 exact ⟨_,_,rfl,HO.out,HG.out⟩
theorem insert_new (l:List qu.E) (g i B:Nat) (bn:ByteArray) (ga:Nat) (w:World) (hi:i <= l.length) (hl:l.length <= 1048576) (hB:B <= w.heap.size) (ho:w.ownsRow B 58 4 (.slice (some ⟨g,0,none⟩) l.length l.length) l.length (l.flatMap qu.c)) (ha:w.heap[ga]?=some (.cells #[.string bn,.int .i64 1,.slice none 0 0,.slice none 0 0] 58 (0,0))) :
  Calls Tryz.prog 27 #[.slice (some ⟨g,0,none⟩) l.length l.length,.int .i64 i,.slice (some ⟨ga,0,none⟩) 1 1] w fun r w'=>∃ g2 c2,r=.returned (.slice (some ⟨g2,0,none⟩) (l.length+1) c2)/\w'.ownsRow B 58 4 (.slice (some ⟨g2,0,none⟩) (l.length+1) c2) (l.length+1) ((l.take i++⟨bn,1,none,0,[],none,0,[]⟩ :: l.drop i).flatMap qu.c)/\w.grownBy w' (some g):=by
 by_cases h:i < l.length
 ·exact (insert_mid l g i B bn ga w h hl hB ho ha).mono fun r w' ⟨g2,c2,h1,h2,h3⟩=>⟨g2,c2,h1,h2,⟨h3.os,h3.tape,h3.output,h3.size,fun k hk _=>h3.block k hk⟩⟩
 ·obtain rfl:i=l.length:=by omega
  rw [List.take_length,List.drop_length]
  exact insert_end l g B bn ga w hl hB ho ha
end Go.Proofs.YtaoefccgdfcchaaGreat.inq
namespace Go.Proofs.YtaoefccgdfcchaaGreat.ins
open ChangeShapes WideShapes ChangeAt RowKit fl
theorem infoX:∃ i0,Tryz.prog.info? 54=some i0/\i0.zero=some (.agg #[.string ByteArray.empty,.int .i64 0,.int .i64 0,.slice none 0 0,.slice none 0 0])/\i0.size=5/\i0.bytes=80:=by
 have h:(Tryz.prog.info? 54).map (fun i=>(i.zero,i.size,i.bytes))=some (some (.agg #[.string ByteArray.empty,.int .i64 0,.int .i64 0,.slice none 0 0,.slice none 0 0]),5,80):=by kernel_rfl
 cases hh:Tryz.prog.info? 54 with
 | none=>rw [hh] at h; cases h
 | some i=>rw [hh] at h; simp at h; exact ⟨i,rfl,h.1,h.2.1,h.2.2⟩
theorem own_form {w:World} {B n:Nat} {U:TypeId} {s:Nat} {v:Value} {xs:List Value} (h:w.ownsRow B U s v (n+1) xs):∃ g cap,v=.slice (some ⟨g,0,none⟩) (n+1) cap:=by
 obtain ⟨_,⟨rfl,h0⟩ | ⟨g,cap,cur,rfl,_⟩⟩:=h
 ·omega
 ·exact ⟨g,cap,rfl⟩
theorem owns_at {w:World} {B n s g c:Nat} {U:TypeId} {xs:List Value} (h:w.ownsRow B U s (.slice (some ⟨g,0,none⟩) n c) n xs):B <= g/\∃ cur,w.heap[g]?=some (.cells cur U (0,0)):=by
 obtain ⟨_,⟨h1,_⟩ | ⟨g',cap',cur,h1,h2,h3,_⟩⟩:=h
 ·cases h1
 cases h1
 exact ⟨h2,cur,h3⟩
theorem add_at (g o j:Nat):(⟨g,o,none⟩:Addr).add j=⟨g,o+j,none⟩:=by unfold Addr.add; split <;> simp_all
theorem oneX (ms:List su.E):∀ u ∈ ms.flatMap su.c,u.oneCell'=true:=fun u hu=>by
 obtain ⟨e,_,he⟩:=List.mem_flatMap.1 hu
 simp [su.c] at he
 rcases he with rfl | rfl | rfl | rfl | rfl <;> rfl
theorem owns_cells {α:Type} {c:α->List Value} {n B g cap:Nat} {U:TypeId} {l:List α} {w:World} (hn:∀ e,(c e).length=n) (h:w.ownsRow B U n (.slice (some ⟨g,0,none⟩) l.length cap) l.length (l.flatMap c)):∀ (j:Nat) (u:Value),(l.flatMap c)[j]?=some u->w.cell? ⟨g,j,none⟩=some u:=fun j u hu=>by
 obtain ⟨_,⟨h1,_⟩ | ⟨g',cap',cur,h1,h2,h3,h4,h5,h6,h7⟩⟩:=h
 ·cases h1
 cases h1
 rw [<- h7] at hu
 have hlt:=(List.getElem?_eq_some_iff.1 hu).1
 rw [List.length_take] at hlt
 rw [List.getElem?_take_of_lt (by omega)] at hu
 exact bcell h3 (by simpa using hu)
theorem flat_take {α:Type} {c:α->List Value} (l:List α) (i:Nat):(l.take i).flatMap c++(l.drop i).flatMap c=l.flatMap c:=by rw [<- List.flatMap_append,List.take_append_drop]
theorem two_copies {xs v cs rest:List Value} {o1 o2:Nat} (h1:xs.length=o1) (h2:o1+v.length=o2) (hr:v.length+cs.length <= rest.length) :
  (((xs++rest).take o1++v++(xs++rest).drop (o1+v.length)).take o2++cs++((xs++rest).take o1++v++(xs++rest).drop (o1+v.length)).drop (o2+cs.length))=xs++v++cs++rest.drop (v.length+cs.length):=by
 subst h1
 subst h2
 rw [List.take_left,List.drop_append,List.drop_eq_nil_of_le (by omega),List.nil_append,show xs.length+v.length - xs.length=v.length by omega]
 have e1:(xs++v).length=xs.length+v.length:=List.length_append
 rw [<- e1,List.take_left,List.drop_append,List.drop_eq_nil_of_le (by omega),List.nil_append,List.drop_drop]
 congr 2
 omega
theorem owns_new {B g cap n:Nat} {U:TypeId} {w:World} {cur:Array Value} {ys tl:List Value} (hg:w.heap[g]?=some (.cells cur U (0,0))) (hB:B <= g) (hc:cur.toList=ys++tl) (hy:ys.length=n*5) (hn:n <= cap) (hm:cap <= maxLen) (hs:cur.size=cap*5):w.ownsRow B U 5 (.slice (some ⟨g,0,none⟩) n cap) n ys :=
 ⟨hy,.inr ⟨g,cap,cur,rfl,hB,hg,hn,hm,hs,by rw [hc,<- hy,List.take_left]⟩⟩
def ws (b g i n G:Nat):List (Nat × Value):=[(46,.slice (some ⟨b,0,none⟩) (n+1) G),(47,.int .i64 i),(48,.int .i64 1),(49,.int .i64 ((i:Int)+1)),(50,.slice (some ⟨b,(i+1)*5,none⟩) (n - i) (G - (i+1))),(51,.slice (some ⟨g,0,none⟩) n n),(52,.int .i64 i),(53,.slice (some ⟨g,i*5,none⟩) (n - i) (n - i)),(54,.int .i64 ((n - i:Nat):Int))]
theorem insert_mid (l:List su.E) (g i B:Nat) (bn:ByteArray) (ga:Nat) (w:World) (hi:i < l.length) (hl:l.length <= 1048576) (hB:B <= w.heap.size) (ho:w.ownsRow B 54 5 (.slice (some ⟨g,0,none⟩) l.length l.length) l.length (l.flatMap su.c)) (ha:w.heap[ga]?=some (.cells #[.string bn,.int .i64 0,.int .i64 0,.slice none 0 0,.slice none 0 0] 54 (0,0))) :
  Calls Tryz.prog 25 #[.slice (some ⟨g,0,none⟩) l.length l.length,.int .i64 i,.slice (some ⟨ga,0,none⟩) 1 1] w fun r w'=>∃ g2 c2,r=.returned (.slice (some ⟨g2,0,none⟩) (l.length+1) c2)/\w'.ownsRow B 54 5 (.slice (some ⟨g2,0,none⟩) (l.length+1) c2) (l.length+1) ((l.take i++⟨bn,0,0,none,0,[],none,0,[]⟩ :: l.drop i).flatMap su.c)/\Below w.heap.size w w':=by
 obtain ⟨i1,ki,kz0,kz1,kz2⟩:=infoX
 have hcells:=owns_cells su.c_len ho
 have hgl:g < w.heap.size:=by obtain ⟨_,cur,hcur⟩:=owns_at ho; exact (Array.getElem?_eq_some_iff.1 hcur).1
 have hgal:=(Array.getElem?_eq_some_iff.1 ha).1
 obtain ⟨n,hn⟩:∃ n,l.length=n:=⟨_,rfl⟩
 have hxl:((l.take i).flatMap su.c).length=i*5:=by rw [flat_len su.c_len,List.length_take]; congr 1; omega
 have hdl:((l.drop i).flatMap su.c).length=(n - i)*5:=by rw [flat_len su.c_len,List.length_drop,hn]
 have hxc:∀ (j:Nat) (u:Value),((l.take i).flatMap su.c)[j]?=some u->w.cell? ((⟨g,0,none⟩:Addr).add j)=some u:=fun j u hu=>by
  rw [add_at,Nat.zero_add]
  refine hcells j u ?_
  rw [<- flat_take l i,List.getElem?_append_left (List.getElem?_eq_some_iff.1 hu).1]
  exact hu
 have hdc:∀ (j:Nat) (u:Value),((l.drop i).flatMap su.c)[j]?=some u->w.cell? ((⟨g,i*5,none⟩:Addr).add j)=some u:=fun j u hu=>by
  rw [add_at]
  refine hcells (i*5+j) u ?_
  rw [<- flat_take l i,List.getElem?_append_right (by rw [hxl]; omega),hxl,show i*5+j - i*5=j by omega]
  exact hu
 rw [hn] at hi hl
 simp only [hn]
 have hz:=fun ty=>az.run_append_zeros (P:=Tryz.prog) w 36 3 ty 54 i1 _ Tryz.underlying36 Tryz.underlying3 ki kz0 ⟨g,0,none⟩ i n ((l.take i).flatMap su.c) (by rw [hxl,kz1]) hxc (n+1 - i) (by rw [kz1]; omega) (by omega) (by omega) (by rw [kz2]; omega) (by rw [kz2]; exact growslice_fits_wide (by omega) (by omega))
 rw [show i+(n+1 - i)=n+1 by omega] at hz
 have hG1:=grownCap_ge w (n+1) n 54
 have hG2:=grownCap_le_maxLen w (n+1) n 54 (by unfold maxLen; omega)
 obtain ⟨G,hG⟩:∃ G,grownCap w (n+1) n 54=G:=⟨_,rfl⟩
 rw [hG] at hz hG1 hG2
 obtain ⟨rest,hrest⟩:∃ rest:List Value,rest.length=(G - i)*5/\∀ zc:Array Value,zc=(Value.agg #[.string ByteArray.empty,.int .i64 0,.int .i64 0,.slice none 0 0,.slice none 0 0]).cells->(((l.take i).flatMap su.c).toArray++Builtin.zeroCells zc (n+1 - i)++Builtin.zeroCells zc (G - (n+1)))=(((l.take i).flatMap su.c)++rest).toArray:=by
  refine ⟨(Builtin.zeroCells (Value.agg #[.string ByteArray.empty,.int .i64 0,.int .i64 0,.slice none 0 0,.slice none 0 0]).cells (n+1 - i)++Builtin.zeroCells (Value.agg #[.string ByteArray.empty,.int .i64 0,.int .i64 0,.slice none 0 0,.slice none 0 0]).cells (G - (n+1))).toList,?_,?_⟩
  ·simp [size_zeroCells,Value.cells]; omega
  ·rintro zc rfl; simp
 have hrow:=hrest.2 _ rfl
 rw [hrow] at hz
 have hk:(n:Int)+1 - (i:Int)=((n+1 - i:Nat):Int):=by omega
 rw [<- hk] at hz
 obtain ⟨xs,hxs⟩:∃ xs,(l.take i).flatMap su.c=xs:=⟨_,rfl⟩
 obtain ⟨cs,hcs⟩:∃ cs,(l.drop i).flatMap su.c=cs:=⟨_,rfl⟩
 rw [hxs] at hz hxl
 rw [hcs] at hdl hdc
 have hfl:(l.take i++⟨bn,0,0,none,0,[],none,0,[]⟩ :: l.drop i).flatMap su.c=xs++[Value.string bn,Value.int .i64 0,Value.int .i64 0,Value.slice none 0 0,Value.slice none 0 0]++cs:=by rw [<- hxs,<- hcs]; simp [su.c]
 rw [hfl]
 have hone:∀ u ∈ cs,u.oneCell'=true:=by rw [<- hcs]; exact oneX _
 have hg1:(w.drew.alloc (.cells (xs++rest).toArray 54)).heap[w.heap.size]?=some (.cells (xs++rest).toArray 54 (0,0)):=bnew w.drew _ _
 have hb1:Below w.heap.size w (w.drew.alloc (.cells (xs++rest).toArray 54)):=(Below.refl _ w).drew.alloc (Nat.le_refl _) _
 obtain ⟨W1,hW1⟩:∃ W1,w.drew.alloc (.cells (xs++rest).toArray 54)=W1:=⟨_,rfl⟩
 rw [hW1] at hz hg1 hb1
 have hav:=bstay ha hb1 hgal
 have hrl:=hrest.1
 have hmin1:Nat.min 1 (n+1 - i)=1:=Nat.min_eq_left (by omega)
 have hmin2:Nat.min (n - i) (n - i)=n - i:=Nat.min_self _
 have hc1:=fun ty=>cpr.run_copy_rows (P:=Tryz.prog) W1 36 36 ty 54 i1 w.heap.size (i*5) (n+1 - i) (G - i) ⟨ga,0,none⟩ 1 1 (xs++rest).toArray 54 [Value.string bn,Value.int .i64 0,Value.int .i64 0,Value.slice none 0 0,Value.slice none 0 0] Tryz.underlying36 ki hg1 (by rw [kz1,hmin1]; rfl) (fun j u hu=>by
  rw [add_at,Nat.zero_add]
  match j,hu with
  | 0,hu=>cases hu; exact bcell hav rfl
  | 1,hu=>cases hu; exact bcell hav rfl
  | 2,hu=>cases hu; exact bcell hav rfl
  | 3,hu=>cases hu; exact bcell hav rfl
  | 4,hu=>cases hu; exact bcell hav rfl
  | j+5,hu=>simp at hu) (by simp; omega) (by simp [Value.oneCell'])
 rw [hmin1] at hc1
 simp only [show ([Value.string bn,Value.int .i64 0,Value.int .i64 0,Value.slice none 0 0,Value.slice none 0 0]:List Value).length=5 from rfl] at hc1
 obtain ⟨A1,hA1⟩:∃ A1:List Value,(xs++rest).take (i*5)++[Value.string bn,Value.int .i64 0,Value.int .i64 0,Value.slice none 0 0,Value.slice none 0 0]++(xs++rest).drop (i*5+5)=A1:=⟨_,rfl⟩
 rw [hA1] at hc1
 have hA1l:A1.length=i*5+(G - i)*5:=by rw [<- hA1]; simp; omega
 have hg2:(W1.setRow w.heap.size A1.toArray).heap[w.heap.size]?=some (.cells A1.toArray 54 (0,0)):=setRow_heap W1 w.heap.size _ _ 54 _ hg1
 have hb2:Below w.heap.size w (W1.setRow w.heap.size A1.toArray):=below_setRow hb1 (Nat.le_refl _) _
 obtain ⟨W2,hW2⟩:∃ W2,W1.setRow w.heap.size A1.toArray=W2:=⟨_,rfl⟩
 rw [hW2] at hc1 hg2 hb2
 have hc2:=fun ty=>cpr.run_copy_rows (P:=Tryz.prog) W2.drew 36 36 ty 54 i1 w.heap.size ((i+1)*5) (n - i) (G - (i+1)) ⟨g,i*5,none⟩ (n - i) (n - i) A1.toArray 54 cs Tryz.underlying36 ki hg2 (by rw [kz1,hmin2,hdl]) (fun j u hu=>by
  have:=hdc j u hu
  rw [add_at] at this ⊢
  exact (hb2.drew.cell (p:=⟨g,i*5+j,none⟩) hgl).trans this) (by rw [hdl]; simp; omega) hone
 rw [hmin2] at hc2
 have hc2:=fun ty=>(hc2 ty).trans rfl
 have htwo:A1.take ((i+1)*5)++cs++A1.drop ((i+1)*5+cs.length)=xs++[Value.string bn,Value.int .i64 0,Value.int .i64 0,Value.slice none 0 0,Value.slice none 0 0]++cs++rest.drop (5+cs.length):=by
  rw [<- hA1]
  exact two_copies (v:=[Value.string bn,Value.int .i64 0,Value.int .i64 0,Value.slice none 0 0,Value.slice none 0 0]) hxl (by show i*5+5=(i+1)*5; omega) (by show 5+cs.length <= rest.length; omega)
 rw [htwo] at hc2
 have hg3:(W2.drew.setRow w.heap.size (xs++[Value.string bn,Value.int .i64 0,Value.int .i64 0,Value.slice none 0 0,Value.slice none 0 0]++cs++rest.drop (5+cs.length)).toArray).heap[w.heap.size]?=some (.cells (xs++[Value.string bn,Value.int .i64 0,Value.int .i64 0,Value.slice none 0 0,Value.slice none 0 0]++cs++rest.drop (5+cs.length)).toArray 54 (0,0)):=setRow_heap W2.drew w.heap.size _ _ 54 _ hg2
 have hb3:Below w.heap.size w (W2.drew.setRow w.heap.size (xs++[Value.string bn,Value.int .i64 0,Value.int .i64 0,Value.slice none 0 0,Value.slice none 0 0]++cs++rest.drop (5+cs.length)).toArray):=below_setRow hb2.drew (Nat.le_refl _) _
 have hown:(W2.drew.setRow w.heap.size (xs++[Value.string bn,Value.int .i64 0,Value.int .i64 0,Value.slice none 0 0,Value.slice none 0 0]++cs++rest.drop (5+cs.length)).toArray).ownsRow B 54 5 (.slice (some ⟨w.heap.size,0,none⟩) (n+1) G) (n+1) (xs++[Value.string bn,Value.int .i64 0,Value.int .i64 0,Value.slice none 0 0,Value.slice none 0 0]++cs) :=
  owns_new (tl:=rest.drop (5+cs.length)) hg3 hB (by simp) (by simp; omega) hG1 hG2 (by simp; omega)
 obtain ⟨W3,hW3⟩:∃ W3,W2.drew.setRow w.heap.size (xs++[Value.string bn,Value.int .i64 0,Value.int .i64 0,Value.slice none 0 0,Value.slice none 0 0]++cs++rest.drop (5+cs.length)).toArray=W3:=⟨_,rfl⟩
 rw [hW3] at hc2 hb3 hown
 have HB3:Hid (Below w.heap.size w W3):=hb3
 have HOWN:Hid (W3.ownsRow B 54 5 (.slice (some ⟨w.heap.size,0,none⟩) (n+1) G) (n+1) (xs++[Value.string bn,Value.int .i64 0,Value.int .i64 0,Value.slice none 0 0,Value.slice none 0 0]++cs)):=hown
 have i9:IntKind.i64.wrap ((i:Int)+1)=(i:Int)+1:=by rw [IntKind.wrap_i64]; omega
 have r1:i <= n:=by omega
 have r2:(0:Int) <= (i:Int)+1:=by omega
 have r3:¬ G=i+1:=by omega
 have r4:¬ n=i:=by omega
 have q1:¬ (i:Int)=(n:Int):=by omega
 have q2:i < G:=by omega
 have q3:i+1 < G:=by omega
 have q4:(n:Int) < (n:Int)+1:=by omega
 have q5:n - i ≠ 0:=by omega
 clear hcells hxc hdc ho ha hrest hrow hav hg1 hg2 hg3 hb1 hb2 hb3 hown hA1 htwo hW1 hW2 hW3 hone hfl hxs hcs hk hG
 go_enter Tryz.func25,Tryz.ntmps25
 go_wp2_with (at_builtin; first | refine cpr.wpList_append_run rfl _ _ 36 3 rfl _ _ _ rfl rfl (hz _) ?_ | refine cpr.wpList_copy_run rfl _ _ 36 36 rfl _ _ _ rfl rfl (hc1 _) ?_)
 refine dk.region_sets (ws w.heap.size g i n G) [46,47,48,49,50,51,52,53,54] (dk.Cl (fun b W=>W=if b then W3 else W2.drew) 8) (by kernel_rfl) (by kernel_rfl) rfl (by kernel_rfl) rfl ?each ?fin
 case each =>
  refine ⟨dk.q (by decide) (.slice (some ⟨w.heap.size,0,none⟩) (n+1) G) (by rintro _ ⟨⟩; exact dk.sets_on _ (by simp) _ rfl) (fun b W h=>by simp [execOp,go_sem,Act.eval,dk.sets_get,ws,List.lookup]),?_⟩
  refine ⟨dk.q (by decide) (.int .i64 i) (by rintro _ ⟨⟩; exact dk.sets_on _ (by simp) _ rfl) (fun b W h=>by simp [execOp,go_sem,Act.eval,dk.sets_get,ws,List.lookup]),?_⟩
  refine ⟨dk.q (by decide) (.int .i64 1) (by rintro _ ⟨⟩; exact dk.sets_on _ (by simp) _ rfl) (fun b W h=>by simp [execOp,go_sem,Act.eval,dk.sets_get,ws,List.lookup]),?_⟩
  refine ⟨dk.q (by decide) (.int .i64 ((i:Int)+1)) (by rintro _ ⟨⟩; exact dk.sets_on _ (by simp) _ rfl) (fun b W h=>by simp [execOp,go_sem,Act.eval,dk.sets_get,ws,List.lookup,i9]),?_⟩
  refine ⟨dk.q (by decide) (.slice (some ⟨w.heap.size,(i+1)*5,none⟩) (n - i) (G - (i+1))) (by rintro _ ⟨⟩; exact dk.sets_on _ (by simp) _ rfl) (fun b W h=>by simp [execOp,go_sem,Act.eval,dk.sets_get,ws,List.lookup,r1,r2,r3]),?_⟩
  refine ⟨dk.q (by decide) (.slice (some ⟨g,0,none⟩) n n) (by rintro _ ⟨⟩; exact dk.sets_on _ (by simp) _ rfl) (fun b W h=>by simp [execOp,go_sem,Act.eval,dk.sets_get,ws,List.lookup]),?_⟩
  refine ⟨dk.q (by decide) (.int .i64 i) (by rintro _ ⟨⟩; exact dk.sets_on _ (by simp) _ rfl) (fun b W h=>by simp [execOp,go_sem,Act.eval,dk.sets_get,ws,List.lookup]),?_⟩
  refine ⟨dk.q (by decide) (.slice (some ⟨g,i*5,none⟩) (n - i) (n - i)) (by rintro _ ⟨⟩; exact dk.sets_on _ (by simp) _ rfl) (fun b W h=>by simp [execOp,go_sem,Act.eval,dk.sets_get,ws,List.lookup,r1,r4]),?_⟩
  refine ⟨cpr.lastv (.int .i64 ((n - i:Nat):Int)) (by rintro _ ⟨⟩; exact dk.sets_on _ (by simp) _ rfl) (fun W h=>?_),trivial⟩
  obtain rfl:W=W2.drew:=h
  refine ⟨W3,?_,rfl⟩
  simp [execOp,resolve,invoke,builtin,Act.eval,dk.sets_get,ws,List.lookup,hc2]
  rfl
 case fin =>
  intro L W hL hC
  obtain rfl:W=W3:=by
   have h8:=hL 8 (by decide)
   unfold dk.Cl at hC
   rw [h8] at hC
   exact hC
  simp only [dk.sets,ws]
  go_wp2
  go_ret
  exact ⟨_,_,rfl,HOWN.out,HB3.out⟩
theorem insert_end (l:List su.E) (g B:Nat) (bn:ByteArray) (ga:Nat) (w:World) (hl:l.length <= 1048576) (hB:B <= w.heap.size) (ho:w.ownsRow B 54 5 (.slice (some ⟨g,0,none⟩) l.length l.length) l.length (l.flatMap su.c)) (ha:w.heap[ga]?=some (.cells #[.string bn,.int .i64 0,.int .i64 0,.slice none 0 0,.slice none 0 0] 54 (0,0))) :
  Calls Tryz.prog 25 #[.slice (some ⟨g,0,none⟩) l.length l.length,.int .i64 l.length,.slice (some ⟨ga,0,none⟩) 1 1] w fun r w'=>∃ g2 c2,r=.returned (.slice (some ⟨g2,0,none⟩) (l.length+1) c2)/\w'.ownsRow B 54 5 (.slice (some ⟨g2,0,none⟩) (l.length+1) c2) (l.length+1) ((l++[(⟨bn,0,0,none,0,[],none,0,[]⟩:su.E)]).flatMap su.c)/\w.grownBy w' (some g):=by
 obtain ⟨i1,ki,kz0,kz1,kz2⟩:=infoX
 have hfl:(l++[(⟨bn,0,0,none,0,[],none,0,[]⟩:su.E)]).flatMap su.c=l.flatMap su.c++[Value.string bn,Value.int .i64 0,Value.int .i64 0,Value.slice none 0 0,Value.slice none 0 0]:=by rw [List.flatMap_append]; simp [su.c]
 rw [hfl]
 have hnw:∀ (j:Nat) (u:Value),[Value.string bn,Value.int .i64 0,Value.int .i64 0,Value.slice none 0 0,Value.slice none 0 0][j]?=some u->w.cell? ((⟨ga,0,none⟩:Addr).add j)=some u:=fun j u hu=>by
  rw [add_at,Nat.zero_add]
  match j,hu with
  | 0,hu=>cases hu; exact bcell ha rfl
  | 1,hu=>cases hu; exact bcell ha rfl
  | 2,hu=>cases hu; exact bcell ha rfl
  | 3,hu=>cases hu; exact bcell ha rfl
  | 4,hu=>cases hu; exact bcell ha rfl
  | j+5,hu=>simp at hu
 clear hfl ha
 go_enter Tryz.func25,Tryz.ntmps25
 go_wp2_with (at_builtin; refine wpList_append_own _ rfl _ _ 36 rfl B 54 i1 (.agg #[.string ByteArray.empty,.int .i64 0,.int .i64 0,.slice none 0 0,.slice none 0 0]) 5 80 Tryz.underlying36 ki kz0 kz1 kz2 rfl (by decide) _ _ _ rfl ho ⟨ga,0,none⟩ 1 1 [Value.string bn,Value.int .i64 0,Value.int .i64 0,Value.slice none 0 0,Value.slice none 0 0] rfl rfl hnw (by simp [Value.oneCell']) (by unfold maxLen; omega) (by omega) hB ?_)
 intro v' w' hown hgrow _
 obtain ⟨g2,c2,rfl⟩:=own_form hown
 have HO:Hid (w'.ownsRow B 54 5 (.slice (some ⟨g2,0,none⟩) (l.length+1) c2) (l.length+1) (l.flatMap su.c++[Value.string bn,Value.int .i64 0,Value.int .i64 0,Value.slice none 0 0,Value.slice none 0 0])):=hown
 have HG:Hid (w.grownBy w' (some g)):=hgrow
 clear hown hgrow ho hnw
 go_wp2
 go_ret
 exact ⟨_,_,rfl,HO.out,HG.out⟩
theorem insert_new (l:List su.E) (g i B:Nat) (bn:ByteArray) (ga:Nat) (w:World) (hi:i <= l.length) (hl:l.length <= 1048576) (hB:B <= w.heap.size) (ho:w.ownsRow B 54 5 (.slice (some ⟨g,0,none⟩) l.length l.length) l.length (l.flatMap su.c)) (ha:w.heap[ga]?=some (.cells #[.string bn,.int .i64 0,.int .i64 0,.slice none 0 0,.slice none 0 0] 54 (0,0))) :
  Calls Tryz.prog 25 #[.slice (some ⟨g,0,none⟩) l.length l.length,.int .i64 i,.slice (some ⟨ga,0,none⟩) 1 1] w fun r w'=>∃ g2 c2,r=.returned (.slice (some ⟨g2,0,none⟩) (l.length+1) c2)/\w'.ownsRow B 54 5 (.slice (some ⟨g2,0,none⟩) (l.length+1) c2) (l.length+1) ((l.take i++⟨bn,0,0,none,0,[],none,0,[]⟩ :: l.drop i).flatMap su.c)/\w.grownBy w' (some g):=by
 by_cases h:i < l.length
 ·exact (insert_mid l g i B bn ga w h hl hB ho ha).mono fun r w' ⟨g2,c2,h1,h2,h3⟩=>⟨g2,c2,h1,h2,⟨h3.os,h3.tape,h3.output,h3.size,fun k hk _=>h3.block k hk⟩⟩
 ·obtain rfl:i=l.length:=by omega
  rw [List.take_length,List.drop_length]
  exact insert_end l g B bn ga w hl hB ho ha
end Go.Proofs.YtaoefccgdfcchaaGreat.ins
