/- QSetBack. -/
import Derived.Test.YteoojodkkjepeaaGreatKz43
set_option maxRecDepth 100000
set_option maxHeartbeats 8000000
set_option linter.unusedVariables false
namespace Go.Proofs.YteoojodkkjepeaaGreat.qsb
open ChangeShapes WideShapes ChangeAt RowKit fl fo qit qst qpu qpo qop qcl qsp qdp qpi qhn qdi qbk qri
theorem ok_all {nm:ByteArray} {nx:Int} {es:List flM.Ms} {ms:List flH.Hd} (hok:qk.OkQ nm nx es ms):Up (backs es ms):=by
 refine backs_up (up_of hok.ru) (fun h hh e he=>?_) ?_
 ·obtain ⟨i,hi⟩:=List.mem_iff_getElem?.1 hh
  obtain ⟨k,hk⟩:=List.mem_iff_getElem?.1 he
  exact hok.d1 i k e h hk hi
 ·exact List.pairwise_iff_getElem.2 fun i j hi hj hij=>hok.d2 j i _ _ hij (List.getElem?_eq_getElem hi) (List.getElem?_eq_getElem hj)
structure RS (w1:World) (hb:Nat) (Q:Qx) (g:Nat) (es:List flM.Ms) (v0:Nat) (GL:List flH.Hd) (k:Nat) (M:List flM.Ms) (X:World):Prop where
 sn:SN w1 hb Q M X
 hp:hp.Heap less M M.length
 pm:M.Perm (es++(GL.take k).map again)
 sg:k=0->SG w1 hb Q g es.length es X/\M=es
 av:OwnO flH.c 7 102 X v0 0 GL GL.length
 ne:v0 ≠ hb
section
variable {w1:World} {hb:Nat} {Q:Qx} {g:Nat} {es:List flM.Ms} {v0:Nat} {GL:List flH.Hd} {k:Nat} {M M':List flM.Ms} {X Y:World}
theorem RS.on (h:RS w1 hb Q g es v0 GL k M X) (hb':Below X.heap.size X Y):RS w1 hb Q g es v0 GL k M Y :=
 ⟨SN.on h.sn hb',h.hp,h.pm,fun e=>⟨(h.sg e).1.on hb',(h.sg e).2⟩,h.av.below hb' h.av.lt,h.ne⟩
theorem RS.put {e:flH.Hd} (h:RS w1 hb Q g es v0 GL k M X) (he:GL[k]?=some e) (h1:M'.Perm (M++[again e])) (h2:hp.Heap less M' M'.length) (h3:SN w1 hb Q M' Y) (h4:Kt hb X Y):RS w1 hb Q g es v0 GL (k+1) M' Y:=by
 refine ⟨h3,h2,?_,fun e=>by omega,?_,h.ne⟩
 ·refine h1.trans ?_
  rw [List.take_add_one,he]
  simp only [Option.toList_some,List.map_append,List.map_cons,List.map_nil]
  rw [<- List.append_assoc]
  exact h.pm.append_right _
 ·obtain ⟨cur,hc,_⟩:=id h.av
  exact h.av.kept (h4.2 v0 cur 102 hc (by decide) h.ne)
theorem RS.len (h:RS w1 hb Q g es v0 GL k M X) (hk:k <= GL.length):M.length=es.length+k:=by rw [h.pm.length_eq]; simp [Nat.min_eq_left hk]
theorem RS.open (h:RS w1 hb Q g es v0 GL k M X) (hk:k <= GL.length):∃ g5 cap5,SG w1 hb Q g5 cap5 M X:=by
 by_cases h0:k=0
 ·obtain ⟨h1,h2⟩:=h.sg h0
  rw [h2]
  exact ⟨_,_,h1⟩
 ·exact h.sn.sg (fun e=>by have:=h.len hk; rw [e] at this; simp at this; omega)
end
theorem set_back (w1:World) (hb:Nat) (Q:Qx) (g:Nat) (es:List flM.Ms) (v0 vc:Nat) (GL:List flH.Hd) (w3:World) (HR0:Hid (RS w1 hb Q g es v0 GL 0 es w3)) (hgle:es.length+GL.length <= 900) :
  Calls Tryz.prog 147 #[.pointer (some ⟨hb,0,none⟩),.slice (some ⟨v0,0,none⟩) GL.length vc] w3 fun e w'=>e=.returned (.tuple #[])/\∃ M,Hid (RS w1 hb Q g es v0 GL GL.length M w'):=by
 go_enter Tryz.func147,Tryz.ntmps147
 go_wp2
 go_loopw [8] (fun v wr=>∃ k:Nat,k <= GL.length/\v=.int .i64 k/\∃ M,Hid (RS w1 hb Q g es v0 GL k M wr)) (fun v _=>GL.length - (intOf v).toNat)
 case atStart=>exact ⟨0,Nat.zero_le _,rfl,_,HR0⟩
 case round =>
  obtain ⟨k,hk,rfl,M,hR⟩:=hrel
  clear HR0
  have HML:Hid (M.length=es.length+k):=hR.out.len hk
  by_cases hkl:k < GL.length
  ·have i2:(k:Int) < (GL.length:Int):=by omega
   have HG:Hid (GL[k]?=some GL[k]):=List.getElem?_eq_getElem hkl
   obtain ⟨⟨ht,ho,⟨q,x,y,z,ag⟩⟩,he⟩:∃ e,GL[k]=e:=⟨_,rfl⟩
   rw [he] at HG
   have cs:=row7 hR.out.av.row HG.out
   have c0:wr.cell? ⟨v0,k*7,none⟩=some (.int .i64 ht):=cs 0 _ rfl
   have c1:wr.cell? ⟨v0,k*7+1,none⟩=some (.int .i64 ho):=cs 1 _ rfl
   have c2:wr.cell? ⟨v0,k*7+2,none⟩=some (.int .i64 q):=cs 2 _ rfl
   have c3:wr.cell? ⟨v0,k*7+3,none⟩=some (.string x):=cs 3 _ rfl
   have c4:wr.cell? ⟨v0,k*7+4,none⟩=some (.string y):=cs 4 _ rfl
   have c5:wr.cell? ⟨v0,k*7+5,none⟩=some (.string z):=cs 5 _ rfl
   have c6:wr.cell? ⟨v0,k*7+6,none⟩=some (.bool ag):=cs 6 _ rfl
   have hst:=fl.bl wr (.cells #[.int .i64 ht,.int .i64 ho,.int .i64 q,.string x,.string y,.string z,.bool true] 102)
   have HRW:Hid (RS w1 hb Q g es v0 GL k M (wr.alloc (.cells #[.int .i64 ht,.int .i64 ho,.int .i64 q,.string x,.string y,.string z,.bool true] 102))):=hR.out.on hst
   have hpt:=put_run w1 Q hb M ⟨q,x,y,z,true⟩ (wr.alloc (.cells #[.int .i64 ht,.int .i64 ho,.int .i64 q,.string x,.string y,.string z,.bool true] 102)) HRW.out.sn HRW.out.hp (by have:=HML.out; omega)
   clear he cs hst hR
   go_wp2_with (go_at_call 183; fail)
   refine hpt.mono ?_
   rintro e w4 ⟨rfl,M',hMp,hMh,hsn,hkt⟩
   have HRN:Hid (RS w1 hb Q g es v0 GL (k+1) M' w4):=HRW.out.put HG.out hMp hMh hsn hkt
   clear hpt hMp hMh hsn hkt c0 c1 c2 c3 c4 c5 c6 HRW
   go_wp2
   go_roundw
   case rel=>exact ⟨k+1,by omega,by go_num,_,HRN⟩
   case measure=>simp [intOf]; omega
  ·obtain rfl:k=GL.length:=by omega
   have HF:Hid (∃ M,Hid (RS w1 hb Q g es v0 GL GL.length M wr)):=⟨M,hR⟩
   clear hR HML
   go_wp2
   go_end0
   exact ⟨rfl,HF.out⟩
end Go.Proofs.YteoojodkkjepeaaGreat.qsb
