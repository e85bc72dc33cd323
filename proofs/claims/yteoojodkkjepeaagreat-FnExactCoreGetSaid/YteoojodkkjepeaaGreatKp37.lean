/- QClosed, QPushSpec, QPushImpl, QDropPure, QTakeSpec, QTakeImpl, QDropSpec, QueueMarks, QHeldN, QDropImpl, EachBase. -/
import Derived.Test.YteoojodkkjepeaaGreatKp36
import Derived.Test.YteoojodkkjepeaaGreatKp26
import Derived.Test.YteoojodkkjepeaaGreatKp22
import Derived.Test.YteoojodkkjepeaaGreatKp27
import Derived.Test.YteoojodkkjepeaaGreatKp01
import Derived.Test.YteoojodkkjepeaaGreatKp02
import Derived.Test.YteoojodkkjepeaaGreatKp03
import Derived.Test.YteoojodkkjepeaaGreatKp18
import Derived.Test.YteoojodkkjepeaaGreatKp34
import Derived.Test.YteoojodkkjepeaaGreatKp35
set_option maxRecDepth 100000
set_option maxHeartbeats 8000000
set_option linter.unusedVariables false
namespace Go.Proofs.YteoojodkkjepeaaGreat.qcl
open ChangeShapes WideShapes ChangeAt RowKit fl qit qst qpu qpo qop
def Le (a b:flM.Ms):Prop:=a.q <= b.q
structure St (W0:World)(Q:Qx)(hb g cap:Nat)(L:List flM.Ms)(w:World)(B:Nat)(v:Value)(R M:List flM.Ms)(wr:World):Prop where
 sg:SG W0 hb Q g cap M wr
 kq:Kq hb g w wr
 hp:hp.Heap less M M.length
 pm:(R++M).Perm L
 so:R.Pairwise Le
 lo:∀ a∈R,∀ b∈M,Le a b
 ow:wr.ownsRow B 48 5 v R.length (R.flatMap flM.c)
theorem St.step {W0:World}{Q:Qx}{hb g cap B:Nat}{L R M M':List flM.Ms}{w wr:World}{v:Value}{r:flM.Ms}(h:St W0 Q hb g cap L w B v R M wr)(h0:M[0]?=some r)(hp':(r :: M').Perm M):(R++[r]++M').Perm L/\(R++[r]).Pairwise Le/\∀ a∈R++[r],∀ b∈M',Le a b:=by
 have hr:r∈M:=List.mem_of_getElem? h0
 have hmin:∀ b∈M,Le r b:=fun b hb=>by
  obtain⟨i,hi⟩:=List.mem_iff_getElem?.1 hb
  have:=h.hp.head ord (Nat.le_refl _) i (List.getElem?_eq_some_iff.1 hi).1 r b h0 hi
  simp only [less,decide_eq_false_iff_not] at this
  unfold Le
  omega
 refine⟨?_,List.pairwise_append.2 ⟨h.so,List.pairwise_singleton _ _,fun a ha b hb=>by rw [List.mem_singleton] at hb;subst hb;exact h.lo a ha _ hr⟩,fun a ha b hb=>?_⟩
 ·rw [List.append_assoc]
  exact(List.Perm.append_left R hp').trans h.pm
 ·have hbM:b∈M:=hp'.mem_iff.1 (List.mem_cons_of_mem _ hb)
  rcases List.mem_append.1 ha with ha | ha
  ·exact h.lo a ha b hbM
  ·rw [List.mem_singleton] at ha;subst ha;exact hmin b hbM
theorem made0 (w:World)(n B:Nat)(hB:B <= w.heap.size)(hn:n <= 1048576):(w.alloc (.cells (madeCells #[.int .i64 0,.string ByteArray.empty,.string ByteArray.empty,.string ByteArray.empty,.bool false] (n*5)) 48)).ownsRow B 48 5 (.slice (some ⟨w.heap.size,0,none⟩) 0 n) 0 [] :=
 ⟨by simp,.inr ⟨w.heap.size,n,_,rfl,hB,bnew w _ _,Nat.zero_le _,by unfold maxLen;omega,size_madeCells _ _,by simp⟩⟩
theorem make0 (W:World)(n:Nat)(hn:n <= 1048576):(Instr.makeSlice 65 (.int .i64 0) (.int .i64 (n:Int))).run Tryz.prog W=.ok (.slice (some ⟨W.heap.size,0,none⟩) 0 n) (W.alloc (.cells (madeCells #[.int .i64 0,.string ByteArray.empty,.string ByteArray.empty,.string ByteArray.empty,.bool false] (n*5)) 48)):=by
 obtain⟨i0,hi,hz0,hz1,hz2⟩:=qa.infoM
 have hmk:=run_makeSlice (P:=Tryz.prog) W 65 48 i0 _ Tryz.underlying65 hi hz0 .i64 .i64 (0:Int) (n:Int) (by omega) (by omega) (by rw [hz1];simp;omega) (by rw [hz2];omega) (by omega)
 rw [hz1,show ((n:Int)).toNat=n by omega] at hmk
 exact hmk
def lenOf:Value->Nat
 | .slice _ n _=>n
 | _=>0
theorem own_block {w w':World}{B n m:Nat}{U:TypeId}{v:Value}{xs:List Value}(h:w.ownsRow B U n v m xs)(hb:∀ g,v.ownBlock=some g->w'.heap[g]?=w.heap[g]?):w'.ownsRow B U n v m xs:=by
 obtain⟨h1,h2 | ⟨g,cap,cur,h3,h4,h5,h6⟩⟩:=h
 ·exact⟨h1,.inl h2⟩
 ·exact⟨h1,.inr ⟨g,cap,cur,h3,h4,(hb g (by rw [h3];rfl)).trans h5,h6⟩⟩
theorem blk_eq {gr n c k:Nat}(h:(Value.slice (some ⟨gr,0,none⟩) n c).ownBlock=some k):gr=k:=by simpa [Value.ownBlock] using h
theorem sg_below {W0:World}{hb g cap B:Nat}{Q:Qx}{L:List flM.Ms}{w w':World}(h:SG W0 hb Q g cap L w)(hb':Below B w w')(h1:hb<B)(h2:g<B)(h3:W0.heap.size <= B):SG W0 hb Q g cap L w' :=
 ⟨h.bel.trans (hb'.mono h3),h.hbB,h.gB,h.ne,(hb'.block hb h1).trans h.box,h.row.below (hb'.block g h2),h.fits⟩
theorem kq_below {hb g B:Nat}{a w w':World}(h:Kq hb g a w)(hb':Below B w w')(h1:a.heap.size <= B):Kq hb g a w' :=
 ⟨hb'.os.trans h.os,hb'.tape.trans h.tape,hb'.output.trans h.output,Nat.le_trans h.size hb'.size,fun k hk h2 h3=>(hb'.block k (Nat.lt_of_lt_of_le hk h1)).trans (h.block k hk h2 h3)⟩
def wz (hb gr cr n:Nat)(Q:Qx):List (Nat × Value):=[(21,.pointer (some ⟨hb,0,none⟩)),(22,.pointer (some ⟨hb,0,none⟩)),(23,.pointer (some ⟨hb,1,none⟩)),(24,.string Q.nm),(25,.pointer (some ⟨hb,0,none⟩)),(26,.pointer (some ⟨hb,0,none⟩)),(27,.pointer (some ⟨hb,2,none⟩)),(28,.int .i64 Q.nx),(29,.slice (some ⟨gr,0,none⟩) n cr),(30,.pointer (some ⟨hb,0,none⟩)),(31,.pointer (some ⟨hb,0,none⟩)),(32,.pointer (some ⟨hb,3,none⟩)),(33,.slice Q.ha Q.hn Q.hc),(34,.agg #[.string Q.nm,.int .i64 Q.nx,.slice (some ⟨gr,0,none⟩) n cr,.slice Q.ha Q.hn Q.hc])]
def set4 (w:World)(b:Nat)(x0 x1 x2 x3:Value):World:=(((w.setCell ⟨b,0,none⟩ x0).setCell ⟨b,1,none⟩ x1).setCell ⟨b,2,none⟩ x2).setCell ⟨b,3,none⟩ x3
def Dz (hb gr cr n g m cap rb:Nat)(Q:Qx)(Y:World)(b:Bool)(W:World):Prop:=W.heap[hb]?=some (.cells #[.slice (some ⟨g,0,none⟩) m cap,.string Q.nm,.int .i64 Q.nx,.slice Q.ha Q.hn Q.hc] 174 (0,0))/\W=if b then set4 Y rb (.string Q.nm) (.int .i64 Q.nx) (.slice (some ⟨gr,0,none⟩) n cr) (.slice Q.ha Q.hn Q.hc) else Y
theorem closed_run (W0:World)(Q:Qx)(hb g cap:Nat)(L:List flM.Ms)(w:World)(hS:SG W0 hb Q g cap L w)(hl:L.length <= 900)(hH:hp.Heap less L L.length) :
  Calls Tryz.prog 143 #[.pointer (some ⟨hb,0,none⟩)] w fun e w'=>∃ (R:List flM.Ms) (gr cr:Nat),e=.returned (.agg #[.string Q.nm,.int .i64 Q.nx,.slice (some ⟨gr,0,none⟩) R.length cr,.slice Q.ha Q.hn Q.hc])/\R.Perm L/\R.Pairwise Le/\w'.ownsRow w.heap.size 48 5 (.slice (some ⟨gr,0,none⟩) R.length cr) R.length (R.flatMap flM.c)/\Kq hb g w w':=by
 have hgl:g<w.heap.size:=by obtain⟨cur,h1,_⟩:=hS.row;exact(Array.getElem?_eq_some_iff.1 h1).1
 have hbl:hb<w.heap.size:=(Array.getElem?_eq_some_iff.1 hS.box).1
 have hWB:W0.heap.size <= w.heap.size:=hS.bel.size
 have hal:=fl.bl w (.cells #[.string ⟨#[]⟩,.int .i64 0,.slice none 0 0,.slice none 0 0] 68)
 have hZ:=bnew w #[.string ⟨#[]⟩,.int .i64 0,.slice none 0 0,.slice none 0 0] 68
 obtain⟨X,hX⟩:∃ X,w.alloc (.cells #[.string ⟨#[]⟩,.int .i64 0,.slice none 0 0,.slice none 0 0] 68)=X:=⟨_,rfl⟩
 have hXs:X.heap.size=w.heap.size+1:=by rw [<- hX];simp
 rw [hX] at hal hZ
 have hbx:X.cell? ⟨hb,0,none⟩=some (.slice (some ⟨g,0,none⟩) L.length cap):=bcell (hS.on hal).box rfl
 have hmk:=make0 X L.length (by omega)
 have hal2:=fl.bl X (.cells (madeCells #[.int .i64 0,.string ByteArray.empty,.string ByteArray.empty,.string ByteArray.empty,.bool false] (L.length*5)) 48)
 have how:=made0 X L.length (w.heap.size+1) (by omega) (by omega)
 have hZ2:=bold hZ (.cells (madeCells #[.int .i64 0,.string ByteArray.empty,.string ByteArray.empty,.string ByteArray.empty,.bool false] (L.length*5)) 48)
 obtain⟨Y,hY⟩:∃ Y,X.alloc (.cells (madeCells #[.int .i64 0,.string ByteArray.empty,.string ByteArray.empty,.string ByteArray.empty,.bool false] (L.length*5)) 48)=Y:=⟨_,rfl⟩
 rw [hY] at hmk hal2 how hZ2
 have hwY:=fl.bt hal hal2
 have HS0:Hid (St W0 Q hb g cap L w (w.heap.size+1) (.slice (some ⟨X.heap.size,0,none⟩) 0 L.length) [] L Y):=⟨(hS.on hal).on hal2,⟨hwY.os,hwY.tape,hwY.output,hwY.size,fun k hk _ _=>hwY.block k hk⟩,hH,List.Perm.refl _,List.Pairwise.nil,fun a ha=>(by cases ha),how⟩
 have HZ0:Hid (Y.heap[w.heap.size]?=some (.cells #[.string ⟨#[]⟩,.int .i64 0,.slice none 0 0,.slice none 0 0] 68 (0,0))):=hZ2
 clear hS hH hal hal2 how hZ hZ2 hwY
 go_enter Tryz.func143,Tryz.ntmps143
 go_wp2_with (go_at_call 182;refine(len_run _ _ _ _).mono ?_;rintro e w0 ⟨rfl,hw0⟩;rw [<- hw0];clear hw0 w0)
 clear hX hY hmk hbx
 go_loopw [3] (fun v wr=>∃ (R M:List flM.Ms) (gr cr:Nat),v=.slice (some ⟨gr,0,none⟩) R.length cr/\Hid (St W0 Q hb g cap L w (w.heap.size+1) (.slice (some ⟨gr,0,none⟩) R.length cr) R M wr/\wr.heap[w.heap.size]?=some (.cells #[.string ⟨#[]⟩,.int .i64 0,.slice none 0 0,.slice none 0 0] 68 (0,0)))) (fun v _=>L.length - lenOf v)
 case atStart=>exact⟨[],L,X.heap.size,L.length,by rw [hXs];rfl,HS0.out,HZ0.out⟩
 case round =>
  obtain⟨R,M,gr,cr,rfl,hst⟩:=hrel
  clear HS0 HZ0
  obtain⟨hs,hz⟩:=hst.out
  have hbx:wr.cell? ⟨hb,0,none⟩=some (.slice (some ⟨g,0,none⟩) M.length cap):=bcell hs.sg.box rfl
  have hln:=hs.pm.length_eq
  rw [List.length_append] at hln
  cases hM:M with
  | nil =>
   subst hM
   have b1:wr.cell? ⟨hb,1,none⟩=some (.string Q.nm):=bcell hs.sg.box rfl
   have b2:wr.cell? ⟨hb,2,none⟩=some (.int .i64 Q.nx):=bcell hs.sg.box rfl
   have b3:wr.cell? ⟨hb,3,none⟩=some (.slice Q.ha Q.hn Q.hc):=bcell hs.sg.box rfl
   obtain⟨z0,z1,z2,z3⟩:=fl.q4 hz
   obtain⟨f0,f1,f2,f3⟩:=fl.r4 hz
   have hbx:wr.cell? ⟨hb,0,none⟩=some (.slice (some ⟨g,0,none⟩) 0 cap):=hbx
   have HF:Hid (R.Perm L/\R.Pairwise Le/\wr.ownsRow (w.heap.size+1) 48 5 (.slice (some ⟨gr,0,none⟩) R.length cr) R.length (R.flatMap flM.c)/\Kq hb g w wr):=⟨by simpa using hs.pm,hs.so,hs.ow,hs.kq⟩
   have hgr:w.heap.size+1 <= gr:=(hs.ow.lt gr rfl).1
   have HBX:Hid (wr.heap[hb]?=some (.cells #[.slice (some ⟨g,0,none⟩) 0 cap,.string Q.nm,.int .i64 Q.nx,.slice Q.ha Q.hn Q.hc] 174 (0,0))):=hs.sg.box
   clear hs hz hst
   go_wp2_with (go_at_call 182;refine(len_run _ _ _ _).mono ?_;rintro e w0 ⟨rfl,hw0⟩;rw [<- hw0];clear hw0 w0)
   obtain⟨V,hV⟩:∃ V,wr.drew=V:=⟨_,rfl⟩
   have e0:V.cell? ⟨w.heap.size,0,none⟩=some (.string ⟨#[]⟩):=by rw [<- hV];exact z0
   have e1:V.cell? ⟨w.heap.size,1,none⟩=some (.int .i64 0):=by rw [<- hV];exact z1
   have e2:V.cell? ⟨w.heap.size,2,none⟩=some (.slice none 0 0):=by rw [<- hV];exact z2
   have e3:V.cell? ⟨w.heap.size,3,none⟩=some (.slice none 0 0):=by rw [<- hV];exact z3
   have k0:V.frozen? ⟨w.heap.size,0,none⟩=false:=by rw [<- hV];exact f0
   have k1:V.frozen? ⟨w.heap.size,1,none⟩=false:=by rw [<- hV];exact f1
   have k2:V.frozen? ⟨w.heap.size,2,none⟩=false:=by rw [<- hV];exact f2
   have k3:V.frozen? ⟨w.heap.size,3,none⟩=false:=by rw [<- hV];exact f3
   have HVB:Hid (Below wr.heap.size wr V):=by unfold Hid;rw [<- hV];exact(Below.refl _ _).drew
   refine dk.region_sets (wz hb gr cr R.length Q) [21,22,23,24,25,26,27,28,29,30,31,32,33,34] (dk.Cl (Dz hb gr cr R.length g 0 cap w.heap.size Q V) 14) (by kernel_rfl) (by kernel_rfl) rfl (by kernel_rfl) ⟨(by rw [hV];exact(HVB.out.block hb (Array.getElem?_eq_some_iff.1 HBX.out).1).trans HBX.out),hV⟩ ?each ?fin
   case each =>
    refine⟨dk.q (by decide) (Value.pointer (some ⟨hb,0,none⟩)) (by rintro _ ⟨⟩;exact dk.sets_on _ (by simp) _ rfl) (fun b W h=>by simp [execOp,go_sem,Act.eval,dk.sets_get,wz,List.lookup]),?_⟩
    refine⟨dk.q (by decide) (Value.pointer (some ⟨hb,0,none⟩)) (by rintro _ ⟨⟩;exact dk.sets_on _ (by simp) _ rfl) (fun b W h=>by simp [execOp,go_sem,Act.eval,dk.sets_get,wz,List.lookup]),?_⟩
    refine⟨dk.q (by decide) (.pointer (some ⟨hb,1,none⟩)) (by rintro _ ⟨⟩;exact dk.sets_on _ (by simp) _ rfl) (fun b W h=>by simp [execOp,go_sem,Act.eval,dk.sets_get,wz,List.lookup]),?_⟩
    refine⟨dk.q (by decide) (.string Q.nm) (by rintro _ ⟨⟩;exact dk.sets_on _ (by simp) _ rfl) (fun b W h=>by have c:W.cell? ⟨hb,1,none⟩=some (.string Q.nm):=bcell h.1 rfl;simp [execOp,go_sem,Act.eval,dk.sets_get,wz,List.lookup,c]),?_⟩
    refine⟨dk.q (by decide) (Value.pointer (some ⟨hb,0,none⟩)) (by rintro _ ⟨⟩;exact dk.sets_on _ (by simp) _ rfl) (fun b W h=>by simp [execOp,go_sem,Act.eval,dk.sets_get,wz,List.lookup]),?_⟩
    refine⟨dk.q (by decide) (Value.pointer (some ⟨hb,0,none⟩)) (by rintro _ ⟨⟩;exact dk.sets_on _ (by simp) _ rfl) (fun b W h=>by simp [execOp,go_sem,Act.eval,dk.sets_get,wz,List.lookup]),?_⟩
    refine⟨dk.q (by decide) (.pointer (some ⟨hb,2,none⟩)) (by rintro _ ⟨⟩;exact dk.sets_on _ (by simp) _ rfl) (fun b W h=>by simp [execOp,go_sem,Act.eval,dk.sets_get,wz,List.lookup]),?_⟩
    refine⟨dk.q (by decide) (.int .i64 Q.nx) (by rintro _ ⟨⟩;exact dk.sets_on _ (by simp) _ rfl) (fun b W h=>by have c:W.cell? ⟨hb,2,none⟩=some (.int .i64 Q.nx):=bcell h.1 rfl;simp [execOp,go_sem,Act.eval,dk.sets_get,wz,List.lookup,c]),?_⟩
    refine⟨dk.q (by decide) (.slice (some ⟨gr,0,none⟩) R.length cr) (by rintro _ ⟨⟩;exact dk.sets_on _ (by simp) _ rfl) (fun b W h=>by simp [execOp,go_sem,Act.eval,dk.sets_get,wz,List.lookup]),?_⟩
    refine⟨dk.q (by decide) (Value.pointer (some ⟨hb,0,none⟩)) (by rintro _ ⟨⟩;exact dk.sets_on _ (by simp) _ rfl) (fun b W h=>by simp [execOp,go_sem,Act.eval,dk.sets_get,wz,List.lookup]),?_⟩
    refine⟨dk.q (by decide) (Value.pointer (some ⟨hb,0,none⟩)) (by rintro _ ⟨⟩;exact dk.sets_on _ (by simp) _ rfl) (fun b W h=>by simp [execOp,go_sem,Act.eval,dk.sets_get,wz,List.lookup]),?_⟩
    refine⟨dk.q (by decide) (.pointer (some ⟨hb,3,none⟩)) (by rintro _ ⟨⟩;exact dk.sets_on _ (by simp) _ rfl) (fun b W h=>by simp [execOp,go_sem,Act.eval,dk.sets_get,wz,List.lookup]),?_⟩
    refine⟨dk.q (by decide) (.slice Q.ha Q.hn Q.hc) (by rintro _ ⟨⟩;exact dk.sets_on _ (by simp) _ rfl) (fun b W h=>by have c:W.cell? ⟨hb,3,none⟩=some (.slice Q.ha Q.hn Q.hc):=bcell h.1 rfl;simp [execOp,go_sem,Act.eval,dk.sets_get,wz,List.lookup,c]),?_⟩
    refine⟨dk.q (by decide) (.agg #[.string Q.nm,.int .i64 Q.nx,.slice (some ⟨gr,0,none⟩) R.length cr,.slice Q.ha Q.hn Q.hc]) (by rintro _ ⟨⟩;exact dk.sets_on _ (by simp) _ rfl) (fun b W h=>by simp [execOp,go_sem,Act.eval,dk.sets_get,wz,List.lookup]),?_⟩
    refine⟨dk.last rfl (fun W h=>?_),trivial⟩
    obtain⟨h1,h2⟩:=h
    have h2:W=V:=h2
    rw [h2] at h1 ⊢
    clear h2
    refine⟨set4 V w.heap.size (.string Q.nm) (.int .i64 Q.nx) (.slice (some ⟨gr,0,none⟩) R.length cr) (.slice Q.ha Q.hn Q.hc),by simp [execOp,go_sem,Act.eval,dk.sets_get,wz,List.lookup,e0,e1,e2,e3,k0,k1,k2,k3,set4],?_,rfl⟩
    unfold set4
    exact boff (boff (boff (boff h1 _ _ _ (by omega)) _ _ _ (by omega)) _ _ _ (by omega)) _ _ _ (by omega)
   case fin =>
    intro L' W hL hC
    have hC':W=set4 V w.heap.size (.string Q.nm) (.int .i64 Q.nx) (.slice (some ⟨gr,0,none⟩) R.length cr) (.slice Q.ha Q.hn Q.hc):=by
     have:=hL 14 (by decide)
     unfold dk.Cl at hC
     rw [this] at hC
     exact hC.2
    subst hC'
    clear hC hL
    simp only [dk.sets,wz,set4]
    go_wp2
    refine bodyPost_ret (v:=.agg #[.string Q.nm,.int .i64 Q.nx,.slice (some ⟨gr,0,none⟩) R.length cr,.slice Q.ha Q.hn Q.hc]) (by simp [results,Tryz.results143,go_sem,e0,e1,e2,e3]) rfl ⟨R,gr,cr,rfl,HF.out.1,HF.out.2.1,?_,?_⟩
    ·have h1:wr.ownsRow w.heap.size 48 5 (.slice (some ⟨gr,0,none⟩) R.length cr) R.length (R.flatMap flM.c):=by
      obtain⟨h1,h2 | ⟨g',cap',cur,h3,h4,h5⟩⟩:=HF.out.2.2.1
      ·exact⟨h1,.inl h2⟩
      ·exact⟨h1,.inr ⟨g',cap',cur,h3,by omega,h5⟩⟩
     have ob:∀ (V:World) (o:Nat) (u:Value),V.ownsRow w.heap.size 48 5 (.slice (some ⟨gr,0,none⟩) R.length cr) R.length (R.flatMap flM.c)->(V.setCell ⟨w.heap.size,o,none⟩ u).ownsRow w.heap.size 48 5 (.slice (some ⟨gr,0,none⟩) R.length cr) R.length (R.flatMap flM.c):=fun V o u h=>own_block h (fun k hk=>Below.heap_setCell _ _ _ k (by have:=blk_eq hk;show k≠w.heap.size;omega))
     have hd:V.ownsRow w.heap.size 48 5 (.slice (some ⟨gr,0,none⟩) R.length cr) R.length (R.flatMap flM.c):=own_block h1 (fun k hk=>HVB.out.block k (h1.lt k hk).2)
     exact ob _ _ _ (ob _ _ _ (ob _ _ _ (ob _ _ _ hd)))
    ·exact Kq.off (Kq.off (Kq.off (Kq.off (Kq.on HF.out.2.2.2 HVB.out) _ _ (Nat.le_refl _)) _ _ (Nat.le_refl _)) _ _ (Nat.le_refl _)) _ _ (Nat.le_refl _)
  | cons r M0 =>
   rw [hM] at hs hbx hln
   have h0:(r :: M0)[0]?=some r:=rfl
   have hfi:=first_run W0 Q hb g cap (r :: M0) r wr hs.sg h0 (by omega) hs.hp
   obtain⟨ML,hML⟩:∃ ML,(r :: M0).length=ML:=⟨_,rfl⟩
   rw [hML] at hbx hln
   have hpos:0<ML:=by rw [<- hML];simp
   have hpi:(0:Int)<(ML:Int):=by omega
   have HST:Hid (St W0 Q hb g cap L w (w.heap.size+1) (.slice (some ⟨gr,0,none⟩) R.length cr) R (r :: M0) wr/\wr.heap[w.heap.size]?=some (.cells #[.string ⟨#[]⟩,.int .i64 0,.slice none 0 0,.slice none 0 0] 68 (0,0))):=⟨hs,hz⟩
   have hgr:w.heap.size+1 <= gr/\gr<wr.heap.size:=hs.ow.lt gr rfl
   clear hs hz hst hM hML
   go_wp2_with (first | (go_at_call 182;refine(len_run _ _ _ _).mono ?_;rintro e w0 ⟨rfl,hw0⟩;rw [<- hw0];clear hw0 w0) | (go_at_call 140;fail))
   refine hfi.mono ?_
   rintro e w1 ⟨rfl,M',hp1,hp2,hp3,hp4⟩
   obtain⟨q1,q2,q3⟩:=St.step HST.out.1 h0 hp1
   have ow1:=own_block HST.out.1.ow (fun k hk=>hp4.block k (by have:=blk_eq hk;omega) (by have:=blk_eq hk;omega) (by have:=blk_eq hk;omega))
   have hz1:=(hp4.block w.heap.size (Array.getElem?_eq_some_iff.1 HST.out.2).1 (by omega) (by omega)).trans HST.out.2
   have hw1s:w.heap.size+1 <= w1.heap.size:=(Array.getElem?_eq_some_iff.1 hz1).1
   have hal:=fl.bl w1 (.cells #[.int .i64 r.q,.string r.x,.string r.k,.string r.b,.bool r.a] 48)
   have hall:qa.All (w1.alloc (.cells #[.int .i64 r.q,.string r.x,.string r.k,.string r.b,.bool r.a] 48)) (w.heap.size+1) (.slice (some ⟨gr,0,none⟩) R.length cr) R:=.inr ⟨gr,cr,rfl,own_block ow1 (fun k hk=>hal.block k (by have:=blk_eq hk;have:=hp4.size;omega))⟩
   obtain⟨v',w',hrun,hall',hbw'⟩:=qa.app_one r hall (by simp;omega) (by omega) (bnew w1 _ _) 65
   have HRUN:Hid ((Builtin.append_ #[65,65] 65 #[.slice (some ⟨gr,0,none⟩) R.length cr,.slice (some ⟨w1.heap.size,0,none⟩) 1 1]).run Tryz.prog (w1.alloc (.cells #[.int .i64 r.q,.string r.x,.string r.k,.string r.b,.bool r.a] 48))=.ok v' w'):=hrun
   have hB:Below (w.heap.size+1) w1 w':=(hal.mono hw1s).trans hbw'
   obtain⟨g2,c2,hv2,ho2⟩:∃ g2 c2,v'=.slice (some ⟨g2,0,none⟩) (R++[r]).length c2/\w'.ownsRow (w.heap.size+1) 48 5 (.slice (some ⟨g2,0,none⟩) (R++[r]).length c2) (R++[r]).length ((R++[r]).flatMap flM.c):=by
    rcases hall' with⟨h9,_⟩ | h9
    ·simp at h9
    ·exact h9
   subst hv2
   have HN:Hid (St W0 Q hb g cap L w (w.heap.size+1) (.slice (some ⟨g2,0,none⟩) (R++[r]).length c2) (R++[r]) M' w'/\w'.heap[w.heap.size]?=some (.cells #[.string ⟨#[]⟩,.int .i64 0,.slice none 0 0,.slice none 0 0] 68 (0,0))) :=
    ⟨⟨sg_below hp3 hB (by omega) (by omega) (by omega),kq_below (HST.out.1.kq.trans hp4) hB (by omega),hp2,q1,q2,q3,ho2⟩,(hB.block w.heap.size (by omega)).trans hz1⟩
   have hR1:(R++[r]).length=R.length+1:=by simp
   clear hfi hp1 hp2 hp3 hp4 q1 q2 q3 ow1 hz1 hal hall hrun hall' hbw' hB ho2 HST hbx
   go_wp2_with (at_builtin;refine cpr.wpList_append_run rfl _ _ 65 65 rfl _ _ _ rfl rfl HRUN.out ?_)
   go_wp2
   go_roundw
   case rel=>exact⟨R++[r],M',g2,c2,by rw [hR1],HN⟩
   case measure=>simp [lenOf];omega
end Go.Proofs.YteoojodkkjepeaaGreat.qcl
namespace Go.Proofs.YteoojodkkjepeaaGreat.qps
open ChangeShapes WideShapes ChangeAt RowKit fl qsp
end Go.Proofs.YteoojodkkjepeaaGreat.qps
namespace Go.Proofs.YteoojodkkjepeaaGreat.qpi
open ChangeShapes WideShapes ChangeAt RowKit fl fo qit qst qpu qpo qop qcl qsp qps
theorem impl_okb (sn:ByteArray)(nx:Int)(es:List flM.Ms)(ms:List flH.Hd)(ra ha:Option Addr)(cg ch:Nat)(w:World)(F:Fit sn es ms)(hY:Row flM.c 5 w w.heap.size ra es)(hE:Row flH.c 7 w w.heap.size ha ms) :
  Calls Tryz.prog 46 #[.agg #[.string sn,.int .i64 nx,.slice ra es.length cg,.slice ha ms.length ch]] w fun e w'=>e=.returned (.bool (okB sn nx es ms))/\Below w.heap.size w w':=by
 refine(qki.impl_ok sn nx es ms ra ha cg ch w F.ns F.el F.ml F.eb F.mb hY hE).mono ?_
 rintro e w' ⟨⟨b,rfl,hb⟩,h⟩
 rw [okB_of hb]
 exact⟨rfl,h⟩
theorem owns_ownO {α:Type}{c:α->List Value}{n B g cap:Nat}{U:TypeId}{w:World}{l:List α}(hn:∀ e,(c e).length=n)(h:w.ownsRow B U n (.slice (some ⟨g,0,none⟩) l.length cap) l.length (l.flatMap c)):OwnO c n U w g 0 l l.length:=by
 obtain⟨_,⟨h1,_⟩ | ⟨g',cap',cur,h1,h2,h3,h4,h5,h6,h7⟩⟩:=h
 ·cases h1
 cases h1
 refine⟨cur,h3,by rw [h6,Nat.zero_add];exact Nat.mul_le_mul_right n h4,fun i e hi he j v hv=>?_⟩
 have hf:=flat_at hn l i e he j v hv
 rw [<- h7] at hf
 have hlt:=(List.getElem?_eq_some_iff.1 hf).1
 rw [List.length_take] at hlt
 rw [List.getElem?_take_of_lt (by omega)] at hf
 rw [Nat.zero_add]
 simpa using hf
theorem sort_uniq {R E:List flM.Ms}(hp:R.Perm E)(hs:R.Pairwise Le)(ha:∀ (i:Nat) (a c:flM.Ms),E[i]?=some a->E[i+1]?=some c->a.q<c.q):R=E:=by
 have hE:E.Pairwise fun a c=>a.q<c.q:=List.pairwise_iff_getElem.2 fun i j hi hj hij=>by
  have:=asc_lt ha (j - i - 1) i E[i] E[j] (List.getElem?_eq_getElem hi) (by rw [show i+(j - i - 1)+1=j by omega];exact List.getElem?_eq_getElem hj)
  exact this
 refine List.Perm.eq_of_pairwise (le:=Le) (fun a c ha' hc' h1 h2=>?_) hs (hE.imp fun h=>Int.le_of_lt h) hp
 have haE:=hp.mem_iff.1 ha'
 have heq:a.q=c.q:=Int.le_antisymm h1 h2
 obtain⟨i,hi⟩:=List.mem_iff_getElem?.1 haE
 obtain⟨j,hj⟩:=List.mem_iff_getElem?.1 hc'
 rcases Nat.lt_trichotomy i j with h | h | h
 ·have:=asc_lt ha (j - i - 1) i a c hi (by rw [show i+(j - i - 1)+1=j by omega];exact hj)
  omega
 ·subst h;rw [hi] at hj;cases hj;rfl
 ·have:=asc_lt ha (i - j - 1) j c a hj (by rw [show j+(i - j - 1)+1=i by omega];exact hi)
  omega
end Go.Proofs.YteoojodkkjepeaaGreat.qpi
namespace Go.Proofs.YteoojodkkjepeaaGreat.qdp
open ChangeShapes WideShapes ChangeAt RowKit fl qsp
def All (W:World)(B:Nat)(v:Value)(l:List flH.Hd):Prop:=(l=[]/\∃ ao,v=.slice ao 0 0) ∨ ∃ g cap,v=.slice (some ⟨g,0,none⟩) l.length cap/\W.ownsRow B 102 7 (.slice (some ⟨g,0,none⟩) l.length cap) l.length (l.flatMap flH.c)
theorem All.form {W:World}{B:Nat}{v:Value}{l:List flH.Hd}(h:All W B v l):∃ ao cap,v=.slice ao l.length cap:=by
 rcases h with⟨rfl,ao,rfl⟩ | ⟨g,cap,rfl,_⟩
 ·exact⟨ao,0,rfl⟩
 ·exact⟨_,cap,rfl⟩
theorem All.row {W:World}{B:Nat}{ao:Option Addr}{cap:Nat}{l:List flH.Hd}(h:All W B (.slice ao l.length cap) l):Row flH.c 7 W W.heap.size ao l:=by
 rcases h with⟨rfl,_⟩ | ⟨g,cap',e,ho⟩
 ·exact .inl rfl
 ·cases e
  obtain⟨a',c',e',hr⟩:=own_row flH.c_len ho
  cases e'
  exact hr
theorem All.on {W W':World}{B:Nat}{v:Value}{l:List flH.Hd}(h:All W B v l)(hb:Below W.heap.size W W'):All W' B v l:=by
 rcases h with h | ⟨g,cap,rfl,ho⟩
 ·exact .inl h
 ·exact .inr ⟨g,cap,rfl,ho.kept (row:=none) ⟨hb.os,hb.tape,hb.output,hb.size,fun k hk _=>hb.block k hk⟩ (by simp [Value.ownBlock])⟩
theorem All.keep {W w':World}{B:Nat}{v:Value}{l:List flH.Hd}(h:All W B v l)(hk:∀ g,v.ownBlock=some g->w'.heap[g]?=W.heap[g]?):All w' B v l:=by
 rcases h with h | ⟨g,cap,rfl,ho⟩
 ·exact .inl h
 ·refine .inr ⟨g,cap,rfl,?_⟩
  obtain⟨h1,h2 | ⟨g',cap',cur,h3,h4,h5,h6⟩⟩:=ho
  ·exact⟨h1,.inl h2⟩
  ·exact⟨h1,.inr ⟨g',cap',cur,h3,h4,(hk g' (by rw [h3];rfl)).trans h5,h6⟩⟩
structure Tk (W:World)(B:Nat)(v u:Value)(l r:List flH.Hd)(wr:World):Prop where
 bel:Below B W wr
 lo:B <= wr.heap.size
 av:All wr B v l
 au:All wr B u r
 ne:∀ g,v.ownBlock=some g->u.ownBlock≠some g
 vl:∀ g,v.ownBlock=some g->g<wr.heap.size
 ul:∀ g,u.ownBlock=some g->g<wr.heap.size
theorem Tk.swap {W wr:World}{B:Nat}{v u:Value}{l r:List flH.Hd}(h:Tk W B v u l r wr):Tk W B u v r l wr:=⟨h.bel,h.lo,h.au,h.av,fun g h1 h2=>h.ne g h2 h1,h.ul,h.vl⟩
theorem Tk.on {W wr X:World}{B:Nat}{v u:Value}{l r:List flH.Hd}(h:Tk W B v u l r wr)(hb:Below wr.heap.size wr X):Tk W B v u l r X :=
 ⟨h.bel.trans (hb.mono h.lo),Nat.le_trans h.lo hb.size,h.av.on hb,h.au.on hb,h.ne,fun g hg=>Nat.lt_of_lt_of_le (h.vl g hg) hb.size,fun g hg=>Nat.lt_of_lt_of_le (h.ul g hg) hb.size⟩
end Go.Proofs.YteoojodkkjepeaaGreat.qdp
namespace Go.Proofs.YteoojodkkjepeaaGreat.qts
open ChangeShapes WideShapes ChangeAt RowKit fl qdp
end Go.Proofs.YteoojodkkjepeaaGreat.qts
namespace Go.Proofs.YteoojodkkjepeaaGreat.qti
open ChangeShapes WideShapes ChangeAt RowKit fl qdp qts
end Go.Proofs.YteoojodkkjepeaaGreat.qti
namespace Go.Proofs.YteoojodkkjepeaaGreat.qds
open ChangeShapes WideShapes ChangeAt RowKit fl qsp qdp qts
end Go.Proofs.YteoojodkkjepeaaGreat.qds
namespace Go.Proofs.YteoojodkkjepeaaGreat.qms
open ChangeShapes WideShapes ChangeAt RowKit fl fo
end Go.Proofs.YteoojodkkjepeaaGreat.qms
namespace Go.Proofs.YteoojodkkjepeaaGreat.qhn
open ChangeShapes WideShapes ChangeAt RowKit fl fo
def HO (w:World)(h:Nat)(ao:Option Addr)(l:List flH.Hd):Prop:=l=[] ∨ (ao=some ⟨h,0,none⟩/\OwnO flH.c 7 102 w h 0 l l.length)
theorem HO.below {w w':World}{h:Nat}{ao:Option Addr}{l:List flH.Hd}(hh:HO w h ao l)(hb:Below w.heap.size w w'):HO w' h ao l:=by
 rcases hh with e | ⟨e,ho⟩
 ·exact .inl e
 ·exact .inr ⟨e,ho.below hb ho.lt⟩
theorem HO.kept {w w':World}{h:Nat}{ao:Option Addr}{l:List flH.Hd}(hh:HO w h ao l)(hb:h<w.heap.size->w'.heap[h]?=w.heap[h]?):HO w' h ao l:=by
 rcases hh with e | ⟨e,ho⟩
 ·exact .inl e
 ·exact .inr ⟨e,ho.kept (hb ho.lt)⟩
theorem HO.row {w:World}{h:Nat}{ao:Option Addr}{l:List flH.Hd}(hh:HO w h ao l):Row flH.c 7 w w.heap.size ao l:=by
 rcases hh with e | ⟨e,ho⟩
 ·exact .inl e
 ·rw [e];exact ho.row
theorem HO.nil {w:World}{h:Nat}{ao:Option Addr}{l:List flH.Hd}(hl:l=[]):HO w h ao l:=.inl hl
end Go.Proofs.YteoojodkkjepeaaGreat.qhn
namespace Go.Proofs.YteoojodkkjepeaaGreat.qdi
open ChangeShapes WideShapes ChangeAt RowKit fl fo qit qst qpu qpo qop qcl qsp qdp qpi qhn
theorem sg_held {W0 w wr:World}{hb g cap:Nat}{nm:ByteArray}{nx:Int}{ha ub:Option Addr}{hn hc un uc:Nat}{L:List flM.Ms}(h:SG W0 hb ⟨nm,nx,ha,hn,hc⟩ g cap L w)(hb':Below w.heap.size w wr):SG W0 hb ⟨nm,nx,ub,un,uc⟩ g cap L (wr.setCell ⟨hb,3,none⟩ (.slice ub un uc)):=by
 have h2:=h.on hb'
 exact⟨h2.bel.setCell h.hbB _,h.hbB,h.gB,h.ne,bset h2.box 3 (.slice ub un uc),h2.row.below (Below.heap_setCell _ _ _ g (by show g≠hb;exact h.ne)),h.fits⟩
end Go.Proofs.YteoojodkkjepeaaGreat.qdi
namespace Go.Proofs.YteoojodkkjepeaaGreat.eb
open ChangeShapes WideShapes ChangeAt RowKit rr ra rt fl co
section
variable {w w':World} {B ge gb gq gt x j:Nat} {es:List Ex} {bs:List Bi} {qs:List qu.E} {ts:List su.E} {cur:Array Value}
theorem set_core (h:Ca w B es bs qs ts ge gb gq gt)(hx:w.heap[x]?=some (.cells cur 39 (0,0)))(v:Value):Ca (w.setCell ⟨x,j,none⟩ v) B es bs qs ts ge gb gq gt:=by
 have ht:fo.Tn w (w.setCell ⟨x,j,none⟩ v) (fun k=>k=x):=(fo.Tn.refl w (fun k=>k=x)).set (g:=x) rfl _ _
 have hz:∀ k,k=x->∃ cur U,w.heap[k]?=some (.cells cur U (0,0))/\U=39:=fun k e=>⟨cur,_,by rw [e];exact hx,rfl⟩
 exact⟨ro2.keptE h.he (Below.heap_setCell _ _ _ _ (fun e=>rmk.ne_type (V:=39) (by decide) (fe_ty h.he) ⟨cur,by rw [e];exact hx⟩)),ro2.keptB h.hb (Below.heap_setCell _ _ _ _ (fun e=>rmk.ne_type (V:=39) (by decide) (fb_ty h.hb) ⟨cur,by rw [e];exact hx⟩)),h.hq.turn ht (fun k hk=>by obtain⟨c,U,h1,rfl⟩:=hz k hk;exact⟨c,_,h1,by decide,by decide,by decide⟩),h.ht.turn ht (fun k hk=>by obtain⟨c,U,h1,rfl⟩:=hz k hk;exact⟨c,_,h1,by decide,by decide,by decide⟩),h.be,h.bb,h.eb⟩
end
def Is (fR:ByteArray->Int->List flM.Ms->List flH.Hd->List flM.Ms)(fH:ByteArray->Int->List flM.Ms->List flH.Hd->List flH.Hd)(s r:qu.E):Prop:=r.nm=s.nm/\r.nx=s.nx/\r.rs=fR s.nm s.nx s.rs s.hs/\r.hs=fH s.nm s.nx s.rs s.hs
structure Dq (fR:ByteArray->Int->List flM.Ms->List flH.Hd->List flM.Ms)(fH:ByteArray->Int->List flM.Ms->List flH.Hd->List flH.Hd)(ks d q:List qu.E)(k:Nat):Prop where
 dl:d.length=k
 ql:ks.drop k=q
 is:∀ (i:Nat) (r s:qu.E),d[i]?=some r->ks[i]?=some s->Is fR fH s r
theorem Dq.more {fR:ByteArray->Int->List flM.Ms->List flH.Hd->List flM.Ms}{fH:ByteArray->Int->List flM.Ms->List flH.Hd->List flH.Hd}{ks d q:List qu.E}{k:Nat}{r r':qu.E}(h:Dq fR fH ks d (r :: q) k)(hr:Is fR fH r r'):Dq fR fH ks (d++[r']) q (k+1)/\ks.take (k+1)=ks.take k++[r]/\k<ks.length/\r∈ks:=by
 have hk:ks[k]?=some r:=by
  have:=congrArg (fun l=>l[0]?) h.ql
  simpa using this
 have hlt:=(List.getElem?_eq_some_iff.1 hk).1
 refine⟨⟨by simp [h.dl],?_,fun i x s hx hs=>?_⟩,?_,hlt,List.mem_iff_getElem?.2 ⟨k,hk⟩⟩
 ·have:=congrArg (List.drop 1) h.ql
  simpa [List.drop_drop,Nat.add_comm] using this
 ·by_cases hi:i<d.length
  ·rw [List.getElem?_append_left hi] at hx
   exact h.is i x s hx hs
  ·have hl:=(List.getElem?_eq_some_iff.1 hx).1
   simp at hl
   obtain rfl:i=k:=by have:=h.dl;omega
   rw [List.getElem?_append_right (by have:=h.dl;omega),h.dl,Nat.sub_self] at hx
   simp at hx
   subst hx
   rw [hk] at hs
   cases hs
   exact hr
 ·rw [List.take_add_one,hk];rfl
structure Ie (w:World)(es:List Ex)(bs:List Bi)(qs:List qu.E)(ts:List su.E)(a0 b0 q0 t0 ec bc qc tc B ge gb gq gt gn:Nat)(us:List su.E)(l:List qu.E)(W:World):Prop where
 bel:Below w.heap.size w W
 res:W.heap[w.heap.size+1]?=some (.cells #[.slice none 0 0,.slice none 0 0,.slice none 0 0,.slice none 0 0] 39 (0,0))
 gnb:W.heap[gn]?=some (.cells #[.slice (some ⟨ge,0,none⟩) es.length es.length,.slice (some ⟨gb,0,none⟩) bs.length bs.length,.slice (some ⟨gq,0,none⟩) qs.length qs.length,.slice (some ⟨gt,0,none⟩) ts.length ts.length] 39 (0,0))
 ca:Ca W B es bs l us ge gb gq gt
section
variable {w:World} {es:List Ex} {bs:List Bi} {qs:List qu.E} {ts:List su.E} {a0 b0 q0 t0 ec bc qc tc B ge gb gq gt gn:Nat} {us:List su.E} {l d q:List qu.E} {W W' X w1:World}
theorem Ie.on (h:Ie w es bs qs ts a0 b0 q0 t0 ec bc qc tc B ge gb gq gt gn us l W)(hb:Below W.heap.size W W'):Ie w es bs qs ts a0 b0 q0 t0 ec bc qc tc B ge gb gq gt gn us l W' :=
 ⟨h.bel.trans (hb.mono h.bel.size),bstay h.res hb (Array.getElem?_eq_some_iff.1 h.res).1,bstay h.gnb hb (Array.getElem?_eq_some_iff.1 h.gnb).1,h.ca.on hb⟩
theorem Ie.put {n:Nat}{r r':qu.E}(hn:d.length=n)(hB:w.heap.size <= B)(hX:Ie w es bs qs ts a0 b0 q0 t0 ec bc qc tc B ge gb gq gt gn us (d++r :: q) X)(h:Ie w es bs qs ts a0 b0 q0 t0 ec bc qc tc B ge gb gq gt gn us (d++r :: q) w1)(hA:fo.Mine flM.c 5 48 w1 B r'.ra r'.rs)(hH:fo.Mine flH.c 7 102 w1 B r'.ha r'.hs)(hlo:∀ k,qu.bA r' k ∨ qu.bB r' k->X.heap.size <= k) :
  Ie w es bs qs ts a0 b0 q0 t0 ec bc qc tc B ge gb gq gt gn us (d++r' :: q) ((((w1.setCell ⟨gq,n*4,none⟩ (.string r'.nm)).setCell ⟨gq,n*4+1,none⟩ (.int .i64 r'.nx)).setCell ⟨gq,n*4+2,none⟩ (.slice r'.ra r'.rs.length r'.rc)).setCell ⟨gq,n*4+3,none⟩ (.slice r'.ha r'.hs.length r'.hc)):=by
 have hg:=qu.own_g h.ca.hq.own
 have hgB:w.heap.size <= gq:=Nat.le_trans hB h.ca.hq.bg
 have ht:fo.Tn w1 ((((w1.setCell ⟨gq,n*4,none⟩ (.string r'.nm)).setCell ⟨gq,n*4+1,none⟩ (.int .i64 r'.nx)).setCell ⟨gq,n*4+2,none⟩ (.slice r'.ra r'.rs.length r'.rc)).setCell ⟨gq,n*4+3,none⟩ (.slice r'.ha r'.hs.length r'.hc)) (fun k=>k=gq):=((((fo.Tn.refl w1 (fun k=>k=gq)).set (g:=gq) rfl _ _).set (g:=gq) rfl _ _).set (g:=gq) rfl _ _).set (g:=gq) rfl _ _
 have kb:∀ (b:Nat) (cur:Array Value),w1.heap[b]?=some (.cells cur 39 (0,0))->((((w1.setCell ⟨gq,n*4,none⟩ (.string r'.nm)).setCell ⟨gq,n*4+1,none⟩ (.int .i64 r'.nx)).setCell ⟨gq,n*4+2,none⟩ (.slice r'.ra r'.rs.length r'.rc)).setCell ⟨gq,n*4+3,none⟩ (.slice r'.ha r'.hs.length r'.hc)).heap[b]?=some (.cells cur 39 (0,0)):=fun b cur hb=>(ht.block b (Array.getElem?_eq_some_iff.1 hb).1 (fun e=>by subst e;exact rmk.ne_type (by decide) hg ⟨cur,hb⟩)).trans hb
 exact⟨h.bel.trans (ht.below h.bel.size (fun k e=>by rw [e];exact hgB)),kb _ _ h.res,kb _ _ h.gnb,ro2.keptE h.ca.he (ht.block ge h.ca.he.lt (fun e=>rmk.ne_type (V:=68) (by decide) (fe_ty h.ca.he) (by rw [e];exact hg))),ro2.keptB h.ca.hb (ht.block gb h.ca.hb.lt (fun e=>rmk.ne_type (V:=68) (by decide) (fb_ty h.ca.hb) (by rw [e];exact hg))),qu.Ls.put r' hn hX.ca.hq h.ca.hq hA hH hlo,h.ca.ht.turn ht (fun k e=>by obtain⟨c,h1⟩:=hg;exact⟨c,_,by rw [e];exact h1,by decide,by decide,by decide⟩),h.ca.be,h.ca.bb,h.ca.eb⟩
end
theorem mine_lo {α:Type}{c:α->List Value}{n:Nat}{U:TypeId}{W:World}{B B':Nat}{a:Option Addr}{l:List α}(h:fo.Mine c n U W B a l)(hB:B' <= B):fo.Mine c n U W B' a l:=by
 rcases h with h | ⟨g,o,h1,h2,h3⟩
 ·exact .inl h
 ·exact .inr ⟨g,o,h1,by omega,h3⟩
theorem Ie.fin {w:World}{es:List Ex}{bs:List Bi}{qs:List qu.E}{ts:List su.E}{a0 b0 q0 t0 ec bc qc tc B ge gb gq gt gn:Nat}{us:List su.E}{l:List qu.E}{W:World}(h:Ie w es bs qs ts a0 b0 q0 t0 ec bc qc tc B ge gb gq gt gn us l W) :
  Hid (Ca ((((W.setCell ⟨w.heap.size+1,0,none⟩ (.slice (some ⟨ge,0,none⟩) es.length es.length)).setCell ⟨w.heap.size+1,1,none⟩ (.slice (some ⟨gb,0,none⟩) bs.length bs.length)).setCell ⟨w.heap.size+1,2,none⟩ (.slice (some ⟨gq,0,none⟩) qs.length qs.length)).setCell ⟨w.heap.size+1,3,none⟩ (.slice (some ⟨gt,0,none⟩) ts.length ts.length)) B es bs l us ge gb gq gt/\Below w.heap.size w ((((W.setCell ⟨w.heap.size+1,0,none⟩ (.slice (some ⟨ge,0,none⟩) es.length es.length)).setCell ⟨w.heap.size+1,1,none⟩ (.slice (some ⟨gb,0,none⟩) bs.length bs.length)).setCell ⟨w.heap.size+1,2,none⟩ (.slice (some ⟨gq,0,none⟩) qs.length qs.length)).setCell ⟨w.heap.size+1,3,none⟩ (.slice (some ⟨gt,0,none⟩) ts.length ts.length))):=by
 have b0:=h.res
 have b1:=bset b0 0 (.slice (some ⟨ge,0,none⟩) es.length es.length)
 have b2:=bset b1 1 (.slice (some ⟨gb,0,none⟩) bs.length bs.length)
 have b3:=bset b2 2 (.slice (some ⟨gq,0,none⟩) qs.length qs.length)
 have hx:w.heap.size <= w.heap.size+1:=by omega
 exact⟨set_core (set_core (set_core (set_core h.ca b0 _) b1 _) b2 _) b3 _,(((h.bel.setCell hx _).setCell hx _).setCell hx _).setCell hx _⟩
end Go.Proofs.YteoojodkkjepeaaGreat.eb
