/- InsertHeld, QPopKit. -/
import Derived.Test.YteoojodkkjepeaaGreatKp26
import Derived.Test.YteoojodkkjepeaaGreatKp02
import Derived.Test.YteoojodkkjepeaaGreatKp22
import Derived.Deep.DeepAppendWide
import Derived.Laws.CopyOwn
import Derived.Test.YteoojodkkjepeaaGreatKp37
import Derived.Test.YteoojodkkjepeaaGreatKp43
import Derived.Test.YteoojodkkjepeaaGreatKp40
set_option maxRecDepth 100000
set_option maxHeartbeats 8000000
set_option linter.unusedVariables false
namespace Go.Proofs.YteoojodkkjepeaaGreat.inh
open ChangeShapes WideShapes ChangeAt RowKit fl
theorem infoX:∃ i0,Tryz.prog.info? 102=some i0/\i0.zero=some (.agg #[.int .i64 0,.int .i64 0,.int .i64 0,.string ByteArray.empty,.string ByteArray.empty,.string ByteArray.empty,.bool false])/\i0.size=7/\i0.bytes=80:=by
 have h:(Tryz.prog.info? 102).map (fun i=>(i.zero,i.size,i.bytes))=some (some (.agg #[.int .i64 0,.int .i64 0,.int .i64 0,.string ByteArray.empty,.string ByteArray.empty,.string ByteArray.empty,.bool false]),7,80):=by kernel_rfl
 cases hh:Tryz.prog.info? 102 with
 | none=>rw [hh] at h;cases h
 | some i=>rw [hh] at h;simp at h;exact⟨i,rfl,h.1,h.2.1,h.2.2⟩
theorem own_form {w:World}{B n:Nat}{U:TypeId}{s:Nat}{v:Value}{xs:List Value}(h:w.ownsRow B U s v (n+1) xs):∃ g cap,v=.slice (some ⟨g,0,none⟩) (n+1) cap:=by
 obtain⟨_,⟨rfl,h0⟩ | ⟨g,cap,cur,rfl,_⟩⟩:=h
 ·omega
 ·exact⟨g,cap,rfl⟩
theorem owns_at {w:World}{B n s g c:Nat}{U:TypeId}{xs:List Value}(h:w.ownsRow B U s (.slice (some ⟨g,0,none⟩) n c) n xs):B <= g/\∃ cur,w.heap[g]?=some (.cells cur U (0,0)):=by
 obtain⟨_,⟨h1,_⟩ | ⟨g',cap',cur,h1,h2,h3,_⟩⟩:=h
 ·cases h1
 cases h1
 exact⟨h2,cur,h3⟩
theorem add_at (g o j:Nat):(⟨g,o,none⟩:Addr).add j=⟨g,o+j,none⟩:=by unfold Addr.add;split <;> simp_all
theorem oneX (ms:List flH.Hd):∀ u∈ms.flatMap flH.c,u.oneCell'=true:=fun u hu=>by
 obtain⟨e,_,he⟩:=List.mem_flatMap.1 hu
 simp [flH.c] at he
 rcases he with rfl | rfl | rfl | rfl | rfl | rfl | rfl <;> rfl
theorem owns_cells {α:Type}{c:α->List Value}{n B g cap:Nat}{U:TypeId}{l:List α}{w:World}(hn:∀ e,(c e).length=n)(h:w.ownsRow B U n (.slice (some ⟨g,0,none⟩) l.length cap) l.length (l.flatMap c)):∀ (j:Nat) (u:Value),(l.flatMap c)[j]?=some u->w.cell? ⟨g,j,none⟩=some u:=fun j u hu=>by
 obtain⟨_,⟨h1,_⟩ | ⟨g',cap',cur,h1,h2,h3,h4,h5,h6,h7⟩⟩:=h
 ·cases h1
 cases h1
 rw [<- h7] at hu
 have hlt:=(List.getElem?_eq_some_iff.1 hu).1
 rw [List.length_take] at hlt
 rw [List.getElem?_take_of_lt (by omega)] at hu
 exact bcell h3 (by simpa using hu)
theorem flat_take {α:Type}{c:α->List Value}(l:List α)(i:Nat):(l.take i).flatMap c++(l.drop i).flatMap c=l.flatMap c:=by rw [<- List.flatMap_append,List.take_append_drop]
theorem two_copies {xs v cs rest:List Value}{o1 o2:Nat}(h1:xs.length=o1)(h2:o1+v.length=o2)(hr:v.length+cs.length <= rest.length) :
  (((xs++rest).take o1++v++(xs++rest).drop (o1+v.length)).take o2++cs++((xs++rest).take o1++v++(xs++rest).drop (o1+v.length)).drop (o2+cs.length))=xs++v++cs++rest.drop (v.length+cs.length):=by
 subst h1
 subst h2
 rw [List.take_left,List.drop_append,List.drop_eq_nil_of_le (by omega),List.nil_append,show xs.length+v.length - xs.length=v.length by omega]
 have e1:(xs++v).length=xs.length+v.length:=List.length_append
 rw [<- e1,List.take_left,List.drop_append,List.drop_eq_nil_of_le (by omega),List.nil_append,List.drop_drop]
 congr 2
 omega
theorem owns_new {B g cap n:Nat}{U:TypeId}{w:World}{cur:Array Value}{ys tl:List Value}(hg:w.heap[g]?=some (.cells cur U (0,0)))(hB:B <= g)(hc:cur.toList=ys++tl)(hy:ys.length=n*7)(hn:n <= cap)(hm:cap <= maxLen)(hs:cur.size=cap*7):w.ownsRow B U 7 (.slice (some ⟨g,0,none⟩) n cap) n ys :=
 ⟨hy,.inr ⟨g,cap,cur,rfl,hB,hg,hn,hm,hs,by rw [hc,<- hy,List.take_left]⟩⟩
def ws (b g i n G:Nat):List (Nat × Value):=[(46,.slice (some ⟨b,0,none⟩) (n+1) G),(47,.int .i64 i),(48,.int .i64 1),(49,.int .i64 ((i:Int)+1)),(50,.slice (some ⟨b,(i+1)*7,none⟩) (n - i) (G - (i+1))),(51,.slice (some ⟨g,0,none⟩) n n),(52,.int .i64 i),(53,.slice (some ⟨g,i*7,none⟩) (n - i) (n - i)),(54,.int .i64 ((n - i:Nat):Int))]
theorem insert_mid (l:List flH.Hd)(g i B:Nat)(bt bo bq:Int)(bx bk bb:ByteArray)(ba:Bool)(ga:Nat)(w:World)(hi:i<l.length)(hl:l.length <= 1048576)(hB:B <= w.heap.size)(ho:w.ownsRow B 102 7 (.slice (some ⟨g,0,none⟩) l.length l.length) l.length (l.flatMap flH.c))(ha:w.heap[ga]?=some (.cells #[.int .i64 bt,.int .i64 bo,.int .i64 bq,.string bx,.string bk,.string bb,.bool ba] 102 (0,0))) :
  Calls Tryz.prog 142 #[.slice (some ⟨g,0,none⟩) l.length l.length,.int .i64 i,.slice (some ⟨ga,0,none⟩) 1 1] w fun r w'=>∃ g2 c2,r=.returned (.slice (some ⟨g2,0,none⟩) (l.length+1) c2)/\w'.ownsRow B 102 7 (.slice (some ⟨g2,0,none⟩) (l.length+1) c2) (l.length+1) ((l.take i++⟨bt,bo,⟨bq,bx,bk,bb,ba⟩⟩ :: l.drop i).flatMap flH.c)/\Below w.heap.size w w':=by
 obtain⟨i1,ki,kz0,kz1,kz2⟩:=infoX
 have hcells:=owns_cells flH.c_len ho
 have hgl:g<w.heap.size:=by obtain⟨_,cur,hcur⟩:=owns_at ho;exact(Array.getElem?_eq_some_iff.1 hcur).1
 have hgal:=(Array.getElem?_eq_some_iff.1 ha).1
 obtain⟨n,hn⟩:∃ n,l.length=n:=⟨_,rfl⟩
 have hxl:((l.take i).flatMap flH.c).length=i*7:=by rw [flat_len flH.c_len,List.length_take];congr 1;omega
 have hdl:((l.drop i).flatMap flH.c).length=(n - i)*7:=by rw [flat_len flH.c_len,List.length_drop,hn]
 have hxc:∀ (j:Nat) (u:Value),((l.take i).flatMap flH.c)[j]?=some u->w.cell? ((⟨g,0,none⟩:Addr).add j)=some u:=fun j u hu=>by
  rw [add_at,Nat.zero_add]
  refine hcells j u ?_
  rw [<- flat_take l i,List.getElem?_append_left (List.getElem?_eq_some_iff.1 hu).1]
  exact hu
 have hdc:∀ (j:Nat) (u:Value),((l.drop i).flatMap flH.c)[j]?=some u->w.cell? ((⟨g,i*7,none⟩:Addr).add j)=some u:=fun j u hu=>by
  rw [add_at]
  refine hcells (i*7+j) u ?_
  rw [<- flat_take l i,List.getElem?_append_right (by rw [hxl];omega),hxl,show i*7+j - i*7=j by omega]
  exact hu
 rw [hn] at hi hl
 simp only [hn]
 have hz:=fun ty=>az.run_append_zeros (P:=Tryz.prog) w 66 3 ty 102 i1 _ Tryz.underlying66 Tryz.underlying3 ki kz0 ⟨g,0,none⟩ i n ((l.take i).flatMap flH.c) (by rw [hxl,kz1]) hxc (n+1 - i) (by rw [kz1];omega) (by omega) (by omega) (by rw [kz2];omega) (by rw [kz2];exact growslice_fits_wide (by omega) (by omega))
 rw [show i+(n+1 - i)=n+1 by omega] at hz
 have hG1:=grownCap_ge w (n+1) n 102
 have hG2:=grownCap_le_maxLen w (n+1) n 102 (by unfold maxLen;omega)
 obtain⟨G,hG⟩:∃ G,grownCap w (n+1) n 102=G:=⟨_,rfl⟩
 rw [hG] at hz hG1 hG2
 obtain⟨rest,hrest⟩:∃ rest:List Value,rest.length=(G - i)*7/\∀ zc:Array Value,zc=(Value.agg #[.int .i64 0,.int .i64 0,.int .i64 0,.string ByteArray.empty,.string ByteArray.empty,.string ByteArray.empty,.bool false]).cells->(((l.take i).flatMap flH.c).toArray++Builtin.zeroCells zc (n+1 - i)++Builtin.zeroCells zc (G - (n+1)))=(((l.take i).flatMap flH.c)++rest).toArray:=by
  refine⟨(Builtin.zeroCells (Value.agg #[.int .i64 0,.int .i64 0,.int .i64 0,.string ByteArray.empty,.string ByteArray.empty,.string ByteArray.empty,.bool false]).cells (n+1 - i)++Builtin.zeroCells (Value.agg #[.int .i64 0,.int .i64 0,.int .i64 0,.string ByteArray.empty,.string ByteArray.empty,.string ByteArray.empty,.bool false]).cells (G - (n+1))).toList,?_,?_⟩
  ·simp [size_zeroCells,Value.cells];omega
  ·rintro zc rfl;simp
 have hrow:=hrest.2 _ rfl
 rw [hrow] at hz
 have hk:(n:Int)+1 - (i:Int)=((n+1 - i:Nat):Int):=by omega
 rw [<- hk] at hz
 obtain⟨xs,hxs⟩:∃ xs,(l.take i).flatMap flH.c=xs:=⟨_,rfl⟩
 obtain⟨cs,hcs⟩:∃ cs,(l.drop i).flatMap flH.c=cs:=⟨_,rfl⟩
 rw [hxs] at hz hxl
 rw [hcs] at hdl hdc
 have hfl:(l.take i++⟨bt,bo,⟨bq,bx,bk,bb,ba⟩⟩ :: l.drop i).flatMap flH.c=xs++[Value.int .i64 bt,Value.int .i64 bo,Value.int .i64 bq,Value.string bx,Value.string bk,Value.string bb,Value.bool ba]++cs:=by rw [<- hxs,<- hcs];simp [flH.c]
 rw [hfl]
 have hone:∀ u∈cs,u.oneCell'=true:=by rw [<- hcs];exact oneX _
 have hg1:(w.drew.alloc (.cells (xs++rest).toArray 102)).heap[w.heap.size]?=some (.cells (xs++rest).toArray 102 (0,0)):=bnew w.drew _ _
 have hb1:Below w.heap.size w (w.drew.alloc (.cells (xs++rest).toArray 102)):=(Below.refl _ w).drew.alloc (Nat.le_refl _) _
 obtain⟨W1,hW1⟩:∃ W1,w.drew.alloc (.cells (xs++rest).toArray 102)=W1:=⟨_,rfl⟩
 rw [hW1] at hz hg1 hb1
 have hav:=bstay ha hb1 hgal
 have hrl:=hrest.1
 have hmin1:Nat.min 1 (n+1 - i)=1:=Nat.min_eq_left (by omega)
 have hmin2:Nat.min (n - i) (n - i)=n - i:=Nat.min_self _
 have hc1:=fun ty=>cpr.run_copy_rows (P:=Tryz.prog) W1 66 66 ty 102 i1 w.heap.size (i*7) (n+1 - i) (G - i) ⟨ga,0,none⟩ 1 1 (xs++rest).toArray 102 [Value.int .i64 bt,Value.int .i64 bo,Value.int .i64 bq,Value.string bx,Value.string bk,Value.string bb,Value.bool ba] Tryz.underlying66 ki hg1 (by rw [kz1,hmin1];rfl) (fun j u hu=>by
  rw [add_at,Nat.zero_add]
  match j,hu with
  | 0,hu=>cases hu;exact bcell hav rfl
  | 1,hu=>cases hu;exact bcell hav rfl
  | 2,hu=>cases hu;exact bcell hav rfl
  | 3,hu=>cases hu;exact bcell hav rfl
  | 4,hu=>cases hu;exact bcell hav rfl
  | 5,hu=>cases hu;exact bcell hav rfl
  | 6,hu=>cases hu;exact bcell hav rfl
  | j+7,hu=>simp at hu) (by simp;omega) (by simp [Value.oneCell'])
 rw [hmin1] at hc1
 simp only [show ([Value.int .i64 bt,Value.int .i64 bo,Value.int .i64 bq,Value.string bx,Value.string bk,Value.string bb,Value.bool ba]:List Value).length=7 from rfl] at hc1
 obtain⟨A1,hA1⟩:∃ A1:List Value,(xs++rest).take (i*7)++[Value.int .i64 bt,Value.int .i64 bo,Value.int .i64 bq,Value.string bx,Value.string bk,Value.string bb,Value.bool ba]++(xs++rest).drop (i*7+7)=A1:=⟨_,rfl⟩
 rw [hA1] at hc1
 have hA1l:A1.length=i*7+(G - i)*7:=by rw [<- hA1];simp;omega
 have hg2:(W1.setRow w.heap.size A1.toArray).heap[w.heap.size]?=some (.cells A1.toArray 102 (0,0)):=setRow_heap W1 w.heap.size _ _ 102 _ hg1
 have hb2:Below w.heap.size w (W1.setRow w.heap.size A1.toArray):=below_setRow hb1 (Nat.le_refl _) _
 obtain⟨W2,hW2⟩:∃ W2,W1.setRow w.heap.size A1.toArray=W2:=⟨_,rfl⟩
 rw [hW2] at hc1 hg2 hb2
 have hc2:=fun ty=>cpr.run_copy_rows (P:=Tryz.prog) W2.drew 66 66 ty 102 i1 w.heap.size ((i+1)*7) (n - i) (G - (i+1)) ⟨g,i*7,none⟩ (n - i) (n - i) A1.toArray 102 cs Tryz.underlying66 ki hg2 (by rw [kz1,hmin2,hdl]) (fun j u hu=>by
  have:=hdc j u hu
  rw [add_at] at this ⊢
  exact(hb2.drew.cell (p:=⟨g,i*7+j,none⟩) hgl).trans this) (by rw [hdl];simp;omega) hone
 rw [hmin2] at hc2
 have hc2:=fun ty=>(hc2 ty).trans rfl
 have htwo:A1.take ((i+1)*7)++cs++A1.drop ((i+1)*7+cs.length)=xs++[Value.int .i64 bt,Value.int .i64 bo,Value.int .i64 bq,Value.string bx,Value.string bk,Value.string bb,Value.bool ba]++cs++rest.drop (7+cs.length):=by
  rw [<- hA1]
  exact two_copies (v:=[Value.int .i64 bt,Value.int .i64 bo,Value.int .i64 bq,Value.string bx,Value.string bk,Value.string bb,Value.bool ba]) hxl (by show i*7+7=(i+1)*7;omega) (by show 7+cs.length <= rest.length;omega)
 rw [htwo] at hc2
 have hg3:(W2.drew.setRow w.heap.size (xs++[Value.int .i64 bt,Value.int .i64 bo,Value.int .i64 bq,Value.string bx,Value.string bk,Value.string bb,Value.bool ba]++cs++rest.drop (7+cs.length)).toArray).heap[w.heap.size]?=some (.cells (xs++[Value.int .i64 bt,Value.int .i64 bo,Value.int .i64 bq,Value.string bx,Value.string bk,Value.string bb,Value.bool ba]++cs++rest.drop (7+cs.length)).toArray 102 (0,0)):=setRow_heap W2.drew w.heap.size _ _ 102 _ hg2
 have hb3:Below w.heap.size w (W2.drew.setRow w.heap.size (xs++[Value.int .i64 bt,Value.int .i64 bo,Value.int .i64 bq,Value.string bx,Value.string bk,Value.string bb,Value.bool ba]++cs++rest.drop (7+cs.length)).toArray):=below_setRow hb2.drew (Nat.le_refl _) _
 have hown:(W2.drew.setRow w.heap.size (xs++[Value.int .i64 bt,Value.int .i64 bo,Value.int .i64 bq,Value.string bx,Value.string bk,Value.string bb,Value.bool ba]++cs++rest.drop (7+cs.length)).toArray).ownsRow B 102 7 (.slice (some ⟨w.heap.size,0,none⟩) (n+1) G) (n+1) (xs++[Value.int .i64 bt,Value.int .i64 bo,Value.int .i64 bq,Value.string bx,Value.string bk,Value.string bb,Value.bool ba]++cs) :=
  owns_new (tl:=rest.drop (7+cs.length)) hg3 hB (by simp) (by simp;omega) hG1 hG2 (by simp;omega)
 obtain⟨W3,hW3⟩:∃ W3,W2.drew.setRow w.heap.size (xs++[Value.int .i64 bt,Value.int .i64 bo,Value.int .i64 bq,Value.string bx,Value.string bk,Value.string bb,Value.bool ba]++cs++rest.drop (7+cs.length)).toArray=W3:=⟨_,rfl⟩
 rw [hW3] at hc2 hb3 hown
 have HB3:Hid (Below w.heap.size w W3):=hb3
 have HOWN:Hid (W3.ownsRow B 102 7 (.slice (some ⟨w.heap.size,0,none⟩) (n+1) G) (n+1) (xs++[Value.int .i64 bt,Value.int .i64 bo,Value.int .i64 bq,Value.string bx,Value.string bk,Value.string bb,Value.bool ba]++cs)):=hown
 have i9:IntKind.i64.wrap ((i:Int)+1)=(i:Int)+1:=by rw [IntKind.wrap_i64];omega
 have r1:i <= n:=by omega
 have r2:(0:Int) <= (i:Int)+1:=by omega
 have r3:¬ G=i+1:=by omega
 have r4:¬ n=i:=by omega
 have q1:¬ (i:Int)=(n:Int):=by omega
 have q2:i<G:=by omega
 have q3:i+1<G:=by omega
 have q4:(n:Int)<(n:Int)+1:=by omega
 have q5:n - i≠0:=by omega
 clear hcells hxc hdc ho ha hrest hrow hav hg1 hg2 hg3 hb1 hb2 hb3 hown hA1 htwo hW1 hW2 hW3 hone hfl hxs hcs hk hG
 go_enter Tryz.func142,Tryz.ntmps142
 go_wp2_with (at_builtin;first | refine cpr.wpList_append_run rfl _ _ 66 3 rfl _ _ _ rfl rfl (hz _) ?_ | refine cpr.wpList_copy_run rfl _ _ 66 66 rfl _ _ _ rfl rfl (hc1 _) ?_)
 refine dk.region_sets (ws w.heap.size g i n G) [46,47,48,49,50,51,52,53,54] (dk.Cl (fun b W=>W=if b then W3 else W2.drew) 8) (by kernel_rfl) (by kernel_rfl) rfl (by kernel_rfl) rfl ?each ?fin
 case each =>
  refine⟨dk.q (by decide) (.slice (some ⟨w.heap.size,0,none⟩) (n+1) G) (by rintro _ ⟨⟩;exact dk.sets_on _ (by simp) _ rfl) (fun b W h=>by simp [execOp,go_sem,Act.eval,dk.sets_get,ws,List.lookup]),?_⟩
  refine⟨dk.q (by decide) (.int .i64 i) (by rintro _ ⟨⟩;exact dk.sets_on _ (by simp) _ rfl) (fun b W h=>by simp [execOp,go_sem,Act.eval,dk.sets_get,ws,List.lookup]),?_⟩
  refine⟨dk.q (by decide) (.int .i64 1) (by rintro _ ⟨⟩;exact dk.sets_on _ (by simp) _ rfl) (fun b W h=>by simp [execOp,go_sem,Act.eval,dk.sets_get,ws,List.lookup]),?_⟩
  refine⟨dk.q (by decide) (.int .i64 ((i:Int)+1)) (by rintro _ ⟨⟩;exact dk.sets_on _ (by simp) _ rfl) (fun b W h=>by simp [execOp,go_sem,Act.eval,dk.sets_get,ws,List.lookup,i9]),?_⟩
  refine⟨dk.q (by decide) (.slice (some ⟨w.heap.size,(i+1)*7,none⟩) (n - i) (G - (i+1))) (by rintro _ ⟨⟩;exact dk.sets_on _ (by simp) _ rfl) (fun b W h=>by simp [execOp,go_sem,Act.eval,dk.sets_get,ws,List.lookup,r1,r2,r3]),?_⟩
  refine⟨dk.q (by decide) (.slice (some ⟨g,0,none⟩) n n) (by rintro _ ⟨⟩;exact dk.sets_on _ (by simp) _ rfl) (fun b W h=>by simp [execOp,go_sem,Act.eval,dk.sets_get,ws,List.lookup]),?_⟩
  refine⟨dk.q (by decide) (.int .i64 i) (by rintro _ ⟨⟩;exact dk.sets_on _ (by simp) _ rfl) (fun b W h=>by simp [execOp,go_sem,Act.eval,dk.sets_get,ws,List.lookup]),?_⟩
  refine⟨dk.q (by decide) (.slice (some ⟨g,i*7,none⟩) (n - i) (n - i)) (by rintro _ ⟨⟩;exact dk.sets_on _ (by simp) _ rfl) (fun b W h=>by simp [execOp,go_sem,Act.eval,dk.sets_get,ws,List.lookup,r1,r4]),?_⟩
  refine⟨cpr.lastv (.int .i64 ((n - i:Nat):Int)) (by rintro _ ⟨⟩;exact dk.sets_on _ (by simp) _ rfl) (fun W h=>?_),trivial⟩
  obtain rfl:W=W2.drew:=h
  refine⟨W3,?_,rfl⟩
  simp [execOp,resolve,invoke,builtin,Act.eval,dk.sets_get,ws,List.lookup,hc2]
  rfl
 case fin =>
  intro L W hL hC
  obtain rfl:W=W3:=by
   have h8:=hL 8 (by decide)
   unfold dk.Cl at hC
   rw [h8] at hC
   exact hC
  simp only [dk.sets,ws]
  go_wp2
  go_ret
  exact⟨_,_,rfl,HOWN.out,HB3.out⟩
theorem insert_end (l:List flH.Hd)(g B:Nat)(bt bo bq:Int)(bx bk bb:ByteArray)(ba:Bool)(ga:Nat)(w:World)(hl:l.length <= 1048576)(hB:B <= w.heap.size)(ho:w.ownsRow B 102 7 (.slice (some ⟨g,0,none⟩) l.length l.length) l.length (l.flatMap flH.c))(ha:w.heap[ga]?=some (.cells #[.int .i64 bt,.int .i64 bo,.int .i64 bq,.string bx,.string bk,.string bb,.bool ba] 102 (0,0))) :
  Calls Tryz.prog 142 #[.slice (some ⟨g,0,none⟩) l.length l.length,.int .i64 l.length,.slice (some ⟨ga,0,none⟩) 1 1] w fun r w'=>∃ g2 c2,r=.returned (.slice (some ⟨g2,0,none⟩) (l.length+1) c2)/\w'.ownsRow B 102 7 (.slice (some ⟨g2,0,none⟩) (l.length+1) c2) (l.length+1) ((l++[(⟨bt,bo,⟨bq,bx,bk,bb,ba⟩⟩:flH.Hd)]).flatMap flH.c)/\w.grownBy w' (some g):=by
 obtain⟨i1,ki,kz0,kz1,kz2⟩:=infoX
 have hfl:(l++[(⟨bt,bo,⟨bq,bx,bk,bb,ba⟩⟩:flH.Hd)]).flatMap flH.c=l.flatMap flH.c++[Value.int .i64 bt,Value.int .i64 bo,Value.int .i64 bq,Value.string bx,Value.string bk,Value.string bb,Value.bool ba]:=by rw [List.flatMap_append];simp [flH.c]
 rw [hfl]
 have hnw:∀ (j:Nat) (u:Value),[Value.int .i64 bt,Value.int .i64 bo,Value.int .i64 bq,Value.string bx,Value.string bk,Value.string bb,Value.bool ba][j]?=some u->w.cell? ((⟨ga,0,none⟩:Addr).add j)=some u:=fun j u hu=>by
  rw [add_at,Nat.zero_add]
  match j,hu with
  | 0,hu=>cases hu;exact bcell ha rfl
  | 1,hu=>cases hu;exact bcell ha rfl
  | 2,hu=>cases hu;exact bcell ha rfl
  | 3,hu=>cases hu;exact bcell ha rfl
  | 4,hu=>cases hu;exact bcell ha rfl
  | 5,hu=>cases hu;exact bcell ha rfl
  | 6,hu=>cases hu;exact bcell ha rfl
  | j+7,hu=>simp at hu
 clear hfl ha
 go_enter Tryz.func142,Tryz.ntmps142
 go_wp2_with (at_builtin;refine wpList_append_own _ rfl _ _ 66 rfl B 102 i1 (.agg #[.int .i64 0,.int .i64 0,.int .i64 0,.string ByteArray.empty,.string ByteArray.empty,.string ByteArray.empty,.bool false]) 7 80 Tryz.underlying66 ki kz0 kz1 kz2 rfl (by decide) _ _ _ rfl ho ⟨ga,0,none⟩ 1 1 [Value.int .i64 bt,Value.int .i64 bo,Value.int .i64 bq,Value.string bx,Value.string bk,Value.string bb,Value.bool ba] rfl rfl hnw (by simp [Value.oneCell']) (by unfold maxLen;omega) (by omega) hB ?_)
 intro v' w' hown hgrow _
 obtain⟨g2,c2,rfl⟩:=own_form hown
 have HO:Hid (w'.ownsRow B 102 7 (.slice (some ⟨g2,0,none⟩) (l.length+1) c2) (l.length+1) (l.flatMap flH.c++[Value.int .i64 bt,Value.int .i64 bo,Value.int .i64 bq,Value.string bx,Value.string bk,Value.string bb,Value.bool ba])):=hown
 have HG:Hid (w.grownBy w' (some g)):=hgrow
 clear hown hgrow ho hnw
 go_wp2
 go_ret
 exact⟨_,_,rfl,HO.out,HG.out⟩
theorem insert_held (l:List flH.Hd)(g i B:Nat)(bt bo bq:Int)(bx bk bb:ByteArray)(ba:Bool)(ga:Nat)(w:World)(hi:i <= l.length)(hl:l.length <= 1048576)(hB:B <= w.heap.size)(ho:w.ownsRow B 102 7 (.slice (some ⟨g,0,none⟩) l.length l.length) l.length (l.flatMap flH.c))(ha:w.heap[ga]?=some (.cells #[.int .i64 bt,.int .i64 bo,.int .i64 bq,.string bx,.string bk,.string bb,.bool ba] 102 (0,0))) :
  Calls Tryz.prog 142 #[.slice (some ⟨g,0,none⟩) l.length l.length,.int .i64 i,.slice (some ⟨ga,0,none⟩) 1 1] w fun r w'=>∃ g2 c2,r=.returned (.slice (some ⟨g2,0,none⟩) (l.length+1) c2)/\w'.ownsRow B 102 7 (.slice (some ⟨g2,0,none⟩) (l.length+1) c2) (l.length+1) ((l.take i++⟨bt,bo,⟨bq,bx,bk,bb,ba⟩⟩ :: l.drop i).flatMap flH.c)/\w.grownBy w' (some g):=by
 by_cases h:i<l.length
 ·exact(insert_mid l g i B bt bo bq bx bk bb ba ga w h hl hB ho ha).mono fun r w' ⟨g2,c2,h1,h2,h3⟩=>⟨g2,c2,h1,h2,⟨h3.os,h3.tape,h3.output,h3.size,fun k hk _=>h3.block k hk⟩⟩
 ·obtain rfl:i=l.length:=by omega
  rw [List.take_length,List.drop_length]
  exact insert_end l g B bt bo bq bx bk bb ba ga w hl hB ho ha
end Go.Proofs.YteoojodkkjepeaaGreat.inh
namespace Go.Proofs.YteoojodkkjepeaaGreat.qoi
open ChangeShapes WideShapes ChangeAt RowKit fl fo qit qst qpu qpo qop qcl qsp qpi
def PP (w:World)(nm:ByteArray)(nv:Int)(L:List flM.Ms)(ms:List flH.Hd)(m:flM.Ms)(f:Bool)(e:Ending)(w':World):Prop:=∃ g ce h cb,e=.returned (.tuple #[.agg #[.string nm,.int .i64 nv,.slice (some ⟨g,0,none⟩) L.length ce,.slice (some ⟨h,0,none⟩) ms.length cb],.agg #[.int .i64 m.q,.string m.x,.string m.k,.string m.b,.bool m.a],.bool f])/\w.heap.size <= g/\w.heap.size <= h/\g≠h/\OwnO flM.c 5 48 w' g 0 L L.length/\OwnO flH.c 7 102 w' h 0 ms ms.length/\Below w.heap.size w w'
theorem own_owns {α:Type}{c:α->List Value}{n B g:Nat}{U:TypeId}{l:List α}{w:World}(hn:∀ e,(c e).length=n)(ho:Own c n U w g l l.length)(hB:B <= g)(hl:l.length <= maxLen):w.ownsRow B U n (.slice (some ⟨g,0,none⟩) l.length l.length) l.length (l.flatMap c):=by
 obtain⟨cur,h1,h2,h3⟩:=ho
 refine⟨flat_len hn l,.inr ⟨g,l.length,cur,rfl,hB,h1,Nat.le_refl _,hl,h2,?_⟩⟩
 apply List.ext_getElem?
 intro j
 by_cases hj:j<l.length*n
 ·rw [List.getElem?_take_of_lt hj]
  have hj2:j<(l.flatMap c).length:=by rw [flat_len hn];exact hj
  obtain⟨u,hu⟩:∃ u,(l.flatMap c)[j]?=some u:=⟨_,List.getElem?_eq_getElem hj2⟩
  obtain⟨i,e,r,k1,k2,k3⟩:=flat_get hn l j _ hu
  rw [hu]
  subst k3
  have:=h3 i e (List.getElem?_eq_some_iff.1 k1).1 k1 r _ k2
  simpa using this
 ·rw [List.getElem?_eq_none (by rw [List.length_take];omega),List.getElem?_eq_none (by rw [flat_len hn];omega)]
theorem perm_tail {M es:List flM.Ms}{e:flM.Ms}(h:(e :: M).Perm es)(he:es=e :: es.tail):M.Perm es.tail:=by rw [he] at h;exact List.Perm.cons_inv h
theorem asc_tail {es:List flM.Ms}(h:∀ (i:Nat) (a c:flM.Ms),es[i]?=some a->es[i+1]?=some c->a.q<c.q):∀ (i:Nat) (a c:flM.Ms),es.tail[i]?=some a->es.tail[i+1]?=some c->a.q<c.q:=fun i a c ha hc=>by
 rw [List.getElem?_tail] at ha hc
 exact h (i+1) a c ha hc
theorem box7 {W:World}{b:Nat}{x0 x1 x2 x3 x4 x5 x6:Value}{U:TypeId}(h:W.heap[b]?=some (.cells #[x0,x1,x2,x3,x4,x5,x6] U (0,0))):W.cell? ⟨b,0,none⟩=some x0/\W.cell? ⟨b,1,none⟩=some x1/\W.cell? ⟨b,2,none⟩=some x2/\W.cell? ⟨b,3,none⟩=some x3/\W.cell? ⟨b,4,none⟩=some x4/\W.cell? ⟨b,5,none⟩=some x5/\W.cell? ⟨b,6,none⟩=some x6:=⟨bcell h rfl,bcell h rfl,bcell h rfl,bcell h rfl,bcell h rfl,bcell h rfl,bcell h rfl⟩
def ws8 (hb a h n p:Nat)(H:Array Value)(v:Value):List (Nat × Value):=[(69,.pointer (some ⟨hb,0,none⟩)),(70,.pointer (some ⟨hb,0,none⟩)),(71,.pointer (some ⟨hb,0,none⟩)),(72,.pointer (some ⟨hb,3,none⟩)),(73,.slice (some ⟨h,0,none⟩) n n),(74,.int .i64 p),(75,.agg H),(76,.slice (some ⟨a,0,none⟩) 1 1),(77,v),(78,.pointer (some ⟨hb,0,none⟩)),(79,.pointer (some ⟨hb,3,none⟩))]
def S8 (W1 U:World)(hb g cap h h3 n:Nat)(nm:ByteArray)(nx:Int)(M:List flM.Ms)(xs:List Value)(H:Array Value)(v:Value):Nat->World->Prop
 | 0,W=>W=U
 | 1,W=>W=U.alloc (.cells H 102)
 | 2,W=>∃ g2 d2,v=.slice (some ⟨g2,0,none⟩) (n+1) d2/\W.ownsRow W1.heap.size 102 7 v (n+1) xs/\SG W1 hb ⟨nm,nx,some ⟨h,0,none⟩,n,n⟩ g cap M W/\W.heap[h3]?=some (.cells H 102 (0,0))
 | _,W=>∃ g2 d2,v=.slice (some ⟨g2,0,none⟩) (n+1) d2/\W.ownsRow W1.heap.size 102 7 v (n+1) xs/\SG W1 hb ⟨nm,nx,some ⟨g2,0,none⟩,n+1,d2⟩ g cap M W/\W.heap[h3]?=some (.cells H 102 (0,0))
theorem s8_2 {W1 U W:World}{hb g cap h h3 n:Nat}{nm:ByteArray}{nx:Int}{M:List flM.Ms}{xs:List Value}{H:Array Value}{v:Value}(h8:S8 W1 U hb g cap h h3 n nm nx M xs H v 2 W):∃ g2 d2,v=.slice (some ⟨g2,0,none⟩) (n+1) d2/\W.ownsRow W1.heap.size 102 7 v (n+1) xs/\SG W1 hb ⟨nm,nx,some ⟨h,0,none⟩,n,n⟩ g cap M W/\W.heap[h3]?=some (.cells H 102 (0,0)):=h8
theorem s8_3 {W1 U W:World}{hb g cap h h3 n:Nat}{nm:ByteArray}{nx:Int}{M:List flM.Ms}{xs:List Value}{H:Array Value}{v:Value}(h8:S8 W1 U hb g cap h h3 n nm nx M xs H v 3 W):∃ g2 d2,v=.slice (some ⟨g2,0,none⟩) (n+1) d2/\W.ownsRow W1.heap.size 102 7 v (n+1) xs/\SG W1 hb ⟨nm,nx,some ⟨g2,0,none⟩,n+1,d2⟩ g cap M W/\W.heap[h3]?=some (.cells H 102 (0,0)):=h8
theorem s8_mid {W1 U W:World}{hb g cap h h3 n:Nat}{nm:ByteArray}{nx:Int}{M:List flM.Ms}{xs:List Value}{H:Array Value}(g2 d2:Nat)(h1:W.ownsRow W1.heap.size 102 7 (.slice (some ⟨g2,0,none⟩) (n+1) d2) (n+1) xs)(h2:SG W1 hb ⟨nm,nx,some ⟨h,0,none⟩,n,n⟩ g cap M W)(h4:W.heap[h3]?=some (.cells H 102 (0,0))):S8 W1 U hb g cap h h3 n nm nx M xs H (.slice (some ⟨g2,0,none⟩) (n+1) d2) 2 W:=⟨g2,d2,rfl,h1,h2,h4⟩
theorem s8_end {W1 U W:World}{hb g cap h h3 n:Nat}{nm:ByteArray}{nx:Int}{M:List flM.Ms}{xs:List Value}{H:Array Value}(g2 d2:Nat)(h1:W.ownsRow W1.heap.size 102 7 (.slice (some ⟨g2,0,none⟩) (n+1) d2) (n+1) xs)(h2:SG W1 hb ⟨nm,nx,some ⟨g2,0,none⟩,n+1,d2⟩ g cap M W)(h4:W.heap[h3]?=some (.cells H 102 (0,0))):S8 W1 U hb g cap h h3 n nm nx M xs H (.slice (some ⟨g2,0,none⟩) (n+1) d2) 3 W:=⟨g2,d2,rfl,h1,h2,h4⟩
def XQ (nm:ByteArray)(nx:Int)(n k g2 d2:Nat)(s:Nat × Nat):Array Value:=#[.string nm,.int .i64 nx,.slice (some ⟨s.1,0,none⟩) n s.2,.slice (some ⟨g2,0,none⟩) k d2]
structure F9 (w:World)(AR:List flM.Ms)(AH:List flH.Hd)(g2 h3:Nat)(xq xm H:Array Value)(s:Nat × Nat)(W:World):Prop where
 oe:OwnO flM.c 5 48 W s.1 0 AR AR.length
 oh:OwnO flH.c 7 102 W g2 0 AH AH.length
 bel:Below w.heap.size w W
 res:W.heap[w.heap.size+1]?=some (.cells xq 68 (0,0))
 rem:W.heap[w.heap.size+2]?=some (.cells xm 48 (0,0))
 mor:W.heap[h3]?=some (.cells H 102 (0,0))
 b1:w.heap.size+3 <= s.1
 b2:w.heap.size+3 <= g2
 ne:s.1≠g2
theorem F9.on {w:World}{AR:List flM.Ms}{AH:List flH.Hd}{g2 h3:Nat}{xq xm H:Array Value}{s:Nat × Nat}{W W':World}(f:F9 w AR AH g2 h3 xq xm H s W)(hb:Below W.heap.size W W'):F9 w AR AH g2 h3 xq xm H s W' :=
 ⟨f.oe.below hb f.oe.lt,f.oh.below hb f.oh.lt,f.bel.trans (hb.mono f.bel.size),bstay f.res hb (Array.getElem?_eq_some_iff.1 f.res).1,bstay f.rem hb (Array.getElem?_eq_some_iff.1 f.rem).1,bstay f.mor hb (Array.getElem?_eq_some_iff.1 f.mor).1,f.b1,f.b2,f.ne⟩
theorem F9.ne3 {w:World}{AR:List flM.Ms}{AH:List flH.Hd}{g2 h3:Nat}{xq xm H:Array Value}{s:Nat × Nat}{W:World}(f:F9 w AR AH g2 h3 xq xm H s W):h3≠w.heap.size+1/\h3≠w.heap.size+2:=by
 constructor
 ·intro e
  have:=f.mor
  rw [e,f.res] at this
  simp at this
 ·intro e
  have:=f.mor
  rw [e,f.rem] at this
  simp at this
theorem F9.put1 {w:World}{AR:List flM.Ms}{AH:List flH.Hd}{g2 h3:Nat}{xq xm H:Array Value}{s:Nat × Nat}{W:World}(f:F9 w AR AH g2 h3 xq xm H s W)(j:Nat)(v:Value):F9 w AR AH g2 h3 (xq.set! j v) xm H s (W.setCell ⟨w.heap.size+1,j,none⟩ v):=by
 have b1:=f.b1
 have b2:=f.b2
 exact⟨f.oe.kept (Below.heap_setCell _ _ _ _ (by show s.1≠w.heap.size+1;omega)),f.oh.kept (Below.heap_setCell _ _ _ _ (by show g2≠w.heap.size+1;omega)),f.bel.setCell (by show w.heap.size <= w.heap.size+1;omega) _,bset f.res j v,boff f.rem _ _ _ (by omega),boff f.mor _ _ _ f.ne3.1,b1,b2,f.ne⟩
theorem F9.put2 {w:World}{AR:List flM.Ms}{AH:List flH.Hd}{g2 h3:Nat}{xq xm H:Array Value}{s:Nat × Nat}{W:World}(f:F9 w AR AH g2 h3 xq xm H s W)(j:Nat)(v:Value):F9 w AR AH g2 h3 xq (xm.set! j v) H s (W.setCell ⟨w.heap.size+2,j,none⟩ v):=by
 have b1:=f.b1
 have b2:=f.b2
 exact⟨f.oe.kept (Below.heap_setCell _ _ _ _ (by show s.1≠w.heap.size+2;omega)),f.oh.kept (Below.heap_setCell _ _ _ _ (by show g2≠w.heap.size+2;omega)),f.bel.setCell (by show w.heap.size <= w.heap.size+2;omega) _,boff f.res _ _ _ (by omega),bset f.rem j v,boff f.mor _ _ _ f.ne3.2,b1,b2,f.ne⟩
theorem F9.put4 {w:World}{AR:List flM.Ms}{AH:List flH.Hd}{g2 h3:Nat}{xm H:Array Value}{s:Nat × Nat}{W:World}{a0 a1 a2 a3 x0 x1 x2 x3:Value}(f:F9 w AR AH g2 h3 #[a0,a1,a2,a3] xm H s W):F9 w AR AH g2 h3 #[x0,x1,x2,x3] xm H s ((((W.setCell ⟨w.heap.size+1,0,none⟩ x0).setCell ⟨w.heap.size+1,1,none⟩ x1).setCell ⟨w.heap.size+1,2,none⟩ x2).setCell ⟨w.heap.size+1,3,none⟩ x3):=(((f.put1 0 x0).put1 1 x1).put1 2 x2).put1 3 x3
theorem F9.put5 {w:World}{AR:List flM.Ms}{AH:List flH.Hd}{g2 h3:Nat}{xq H:Array Value}{s:Nat × Nat}{W:World}{a0 a1 a2 a3 a4 x0 x1 x2 x3 x4:Value}(f:F9 w AR AH g2 h3 xq #[a0,a1,a2,a3,a4] H s W):F9 w AR AH g2 h3 xq #[x0,x1,x2,x3,x4] H s (((((W.setCell ⟨w.heap.size+2,0,none⟩ x0).setCell ⟨w.heap.size+2,1,none⟩ x1).setCell ⟨w.heap.size+2,2,none⟩ x2).setCell ⟨w.heap.size+2,3,none⟩ x3).setCell ⟨w.heap.size+2,4,none⟩ x4):=((((f.put2 0 x0).put2 1 x1).put2 2 x2).put2 3 x3).put2 4 x4
theorem box4 {W:World}{b:Nat}{x0 x1 x2 x3:Value}{U:TypeId}(h:W.heap[b]?=some (.cells #[x0,x1,x2,x3] U (0,0))):W.cell? ⟨b,0,none⟩=some x0/\W.cell? ⟨b,1,none⟩=some x1/\W.cell? ⟨b,2,none⟩=some x2/\W.cell? ⟨b,3,none⟩=some x3:=⟨bcell h rfl,bcell h rfl,bcell h rfl,bcell h rfl⟩
theorem box5 {W:World}{b:Nat}{x0 x1 x2 x3 x4:Value}{U:TypeId}(h:W.heap[b]?=some (.cells #[x0,x1,x2,x3,x4] U (0,0))):W.cell? ⟨b,0,none⟩=some x0/\W.cell? ⟨b,1,none⟩=some x1/\W.cell? ⟨b,2,none⟩=some x2/\W.cell? ⟨b,3,none⟩=some x3/\W.cell? ⟨b,4,none⟩=some x4:=⟨bcell h rfl,bcell h rfl,bcell h rfl,bcell h rfl,bcell h rfl⟩
def ws9 (hb h3 g2 d2:Nat)(nm:ByteArray)(nx:Int)(n k:Nat)(M5:Array Value)(s:Nat × Nat):List (Nat × Value):=[(80,.pointer (some ⟨hb,0,none⟩)),(81,.agg (XQ nm nx n k g2 d2 s)),(82,.pointer (some ⟨h3,2,none⟩)),(83,.agg M5),(84,.agg M5),(8,.bool true)]
def S9 (w U:World)(AR:List flM.Ms)(AH:List flH.Hd)(g2 d2 h3:Nat)(nm:ByteArray)(nx:Int)(n:Nat)(H M5:Array Value)(s:Nat × Nat):Nat->World->Prop
 | 0,W=>W=U
 | 1,W=>F9 w AR AH g2 h3 #[.string ⟨#[]⟩,.int .i64 0,.slice none 0 0,.slice none 0 0] #[.int .i64 0,.string ⟨#[]⟩,.string ⟨#[]⟩,.string ⟨#[]⟩,.bool false] H s W
 | 2,W=>F9 w AR AH g2 h3 #[.string ⟨#[]⟩,.int .i64 0,.slice none 0 0,.slice none 0 0] #[.int .i64 0,.string ⟨#[]⟩,.string ⟨#[]⟩,.string ⟨#[]⟩,.bool false] H s W
 | 3,W=>F9 w AR AH g2 h3 (XQ nm nx AR.length n g2 d2 s) #[.int .i64 0,.string ⟨#[]⟩,.string ⟨#[]⟩,.string ⟨#[]⟩,.bool false] H s W
 | _,W=>F9 w AR AH g2 h3 (XQ nm nx AR.length n g2 d2 s) M5 H s W
section
variable {w U W:World} {AR:List flM.Ms} {AH:List flH.Hd} {g2 d2 h3 n:Nat} {nm:ByteArray} {nx:Int} {H M5:Array Value} {s:Nat × Nat}
theorem s9_2 (h:S9 w U AR AH g2 d2 h3 nm nx n H M5 s 2 W):F9 w AR AH g2 h3 #[.string ⟨#[]⟩,.int .i64 0,.slice none 0 0,.slice none 0 0] #[.int .i64 0,.string ⟨#[]⟩,.string ⟨#[]⟩,.string ⟨#[]⟩,.bool false] H s W:=h
theorem s9_3 (h:S9 w U AR AH g2 d2 h3 nm nx n H M5 s 3 W):F9 w AR AH g2 h3 (XQ nm nx AR.length n g2 d2 s) #[.int .i64 0,.string ⟨#[]⟩,.string ⟨#[]⟩,.string ⟨#[]⟩,.bool false] H s W:=h
theorem s9_4 (h:S9 w U AR AH g2 d2 h3 nm nx n H M5 s 4 W):F9 w AR AH g2 h3 (XQ nm nx AR.length n g2 d2 s) M5 H s W:=h
theorem s9_more {k:Nat}(hk:k <= 1)(hU:U.heap[h3]?=some (.cells H 102 (0,0)))(h:S9 w U AR AH g2 d2 h3 nm nx n H M5 s k W):W.heap[h3]?=some (.cells H 102 (0,0)):=by
 match k,hk,h with
 | 0,_,h=>rw [show W=U from h];exact hU
 | 1,_,h=>exact F9.mor (show F9 w AR AH g2 h3 #[.string ⟨#[]⟩,.int .i64 0,.slice none 0 0,.slice none 0 0] #[.int .i64 0,.string ⟨#[]⟩,.string ⟨#[]⟩,.string ⟨#[]⟩,.bool false] H s W from h)
end
theorem sg_grown {W0 w w':World}{hb g cap h:Nat}{Q:Qx}{L:List flM.Ms}(hs:SG W0 hb Q g cap L w)(hg:w.grownBy w' (some h))(h1:h≠g)(h2:h≠hb)(h3:W0.heap.size <= h):SG W0 hb Q g cap L w':=by
 have hgl:g<w.heap.size:=by obtain⟨cur,hc,_⟩:=hs.row;exact(Array.getElem?_eq_some_iff.1 hc).1
 exact⟨hs.bel.grown hg hs.bel.size (fun k hk=>by cases hk;exact h3),hs.hbB,hs.gB,hs.ne,grown_at hg hs.box (by simpa using h2),hs.row.below (hg.block g hgl (fun e=>by have:=Option.some.inj e;omega)),hs.fits⟩
end Go.Proofs.YteoojodkkjepeaaGreat.qoi
