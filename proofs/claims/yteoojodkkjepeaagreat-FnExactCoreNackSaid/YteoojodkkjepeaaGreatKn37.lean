/- QBackSpec, QRetSpec, QPutBack. -/
import Derived.Test.YteoojodkkjepeaaGreatKn35
import Derived.Test.YteoojodkkjepeaaGreatKn36
import Derived.Test.YteoojodkkjepeaaGreatKn32
import Derived.Test.YteoojodkkjepeaaGreatKn33
set_option maxRecDepth 100000
set_option maxHeartbeats 8000000
set_option linter.unusedVariables false
namespace Go.Proofs.YteoojodkkjepeaaGreat.qbs
open ChangeShapes WideShapes ChangeAt RowKit fl qbk
theorem box5 {W:World}{b:Nat}{x0 x1 x2 x3 x4:Value}{U:TypeId}(h:W.heap[b]?=some (.cells #[x0,x1,x2,x3,x4] U (0,0))):W.cell? ⟨b,0,none⟩=some x0/\W.cell? ⟨b,1,none⟩=some x1/\W.cell? ⟨b,2,none⟩=some x2/\W.cell? ⟨b,3,none⟩=some x3/\W.cell? ⟨b,4,none⟩=some x4:=⟨bcell h rfl,bcell h rfl,bcell h rfl,bcell h rfl,bcell h rfl⟩
theorem take_drop_flat (l:List flM.Ms)(k:Nat):l.flatMap flM.c=(l.take k).flatMap flM.c++(l.drop k).flatMap flM.c:=by rw [<- List.flatMap_append,List.take_append_drop]
theorem news_take {w:World}{B g:Nat}{l:List flM.Ms}(h:Row flM.c 5 w B (some ⟨g,0,none⟩) l)(k:Nat):∀ (j:Nat) (u:Value),((l.take k).flatMap flM.c)[j]?=some u->w.cell? ((⟨g,0,none⟩:Addr).add j)=some u:=fun j u hu=>by
 refine qsp.newsR flM.c_len h j u ?_
 rw [take_drop_flat l k,List.getElem?_append_left (List.getElem?_eq_some_iff.1 hu).1]
 exact hu
theorem news_drop {w:World}{B g:Nat}{l:List flM.Ms}(h:Row flM.c 5 w B (some ⟨g,0,none⟩) l)(k:Nat)(hk:k <= l.length):∀ (j:Nat) (u:Value),((l.drop k).flatMap flM.c)[j]?=some u->w.cell? ((⟨g,k*5,none⟩:Addr).add j)=some u:=fun j u hu=>by
 have hlen:((l.take k).flatMap flM.c).length=k*5:=by rw [flat_len flM.c_len,List.length_take,Nat.min_eq_left hk]
 have hh:=qsp.newsR flM.c_len h (k*5+j) u (by rw [take_drop_flat l k,List.getElem?_append_right (by omega),hlen,show k*5+j - k*5=j by omega];exact hu)
 rw [qsp.add_at] at hh ⊢
 rwa [Nat.zero_add] at hh
theorem row_cell {w:World}{B g k:Nat}{l:List flM.Ms}{e:flM.Ms}(h:Row flM.c 5 w B (some ⟨g,0,none⟩) l)(he:l[k]?=some e):w.cell? ⟨g,k*5,none⟩=some (.int .i64 e.q):=by
 rcases h with h0 | ⟨b',off',hh,hlt,hc⟩
 ·rw [h0] at he;simp at he
 ·cases hh
  have:=hc k _ he 0 _ rfl
  simpa using this
theorem back_at {l:List flM.Ms}{m:flM.Ms}{k:Nat}(h:at_ l m.q=k):back l m=l.take k++[m]++l.drop k:=by subst h;rfl
def ws (g n c k o m' cc:Nat)(m:flM.Ms)(s:tas.G):List (Nat × Value):=[(22,.slice (some ⟨s.e0,0,none⟩) 0 0),(23,.slice (some ⟨g,0,none⟩) n c),(24,.int .i64 k),(25,.slice (some ⟨g,0,none⟩) k c),(26,s.v1),(27,.agg #[.int .i64 m.q,.string m.x,.string m.k,.string m.b,.bool m.a]),(28,.slice (some ⟨s.h,0,none⟩) 1 1),(29,s.v2),(30,.slice (some ⟨g,0,none⟩) n c),(31,.int .i64 k),(32,.slice (some ⟨g,o,none⟩) m' cc),(33,s.v3),(4,s.v4)]
def J0:tas.J:=⟨0,4,6,7,11,12⟩
theorem J0_up:J0.up:=⟨by decide,by decide,by decide,by decide,by decide⟩
theorem spec_back (l:List flM.Ms)(g c:Nat)(m:flM.Ms)(w:World)(hl:l.length <= 1048576)(hlc:l.length <= c)(hS:Row flM.c 5 w w.heap.size (some ⟨g,0,none⟩) l) :
  Calls Tryz.prog 73 #[.slice (some ⟨g,0,none⟩) l.length c,.agg #[.int .i64 m.q,.string m.x,.string m.k,.string m.b,.bool m.a]] w fun e w'=>∃ g2 c2,e=.returned (.slice (some ⟨g2,0,none⟩) (back l m).length c2)/\w'.ownsRow w.heap.size 48 5 (.slice (some ⟨g2,0,none⟩) (back l m).length c2) (back l m).length ((back l m).flatMap flM.c)/\Below w.heap.size w w':=by
 obtain⟨i0,hi,hz0,hz1,hz2⟩:=qsp.infoY
 have HS:Hid (Row flM.c 5 w w.heap.size (some ⟨g,0,none⟩) l):=hS
 have hal:=fl.bl w (.cells #[.int .i64 m.q,.string m.x,.string m.k,.string m.b,.bool m.a] 48)
 have hA:=bnew w #[.int .i64 m.q,.string m.x,.string m.k,.string m.b,.bool m.a] 48
 obtain⟨V,hV⟩:∃ V,w.alloc (.cells #[.int .i64 m.q,.string m.x,.string m.k,.string m.b,.bool m.a] 48)=V:=⟨_,rfl⟩
 rw [hV] at hal hA
 have HA:Hid (V.heap[w.heap.size]?=some (.cells #[.int .i64 m.q,.string m.x,.string m.k,.string m.b,.bool m.a] 48 (0,0))):=hA
 have hVs:w.heap.size<V.heap.size:=(Array.getElem?_eq_some_iff.1 hA).1
 clear hS hA
 go_enter Tryz.func73,Tryz.ntmps73
 go_wp2
 clear hV
 go_loopw [5] (fun v wr=>∃ k:Nat,k <= l.length/\v=.int .i64 k/\Hid (∀ (i:Nat) a,i<k->l[i]?=some a->a.q<m.q)/\Hid (Below V.heap.size V wr)) (fun v _=>l.length - (intOf v).toNat)
 case atStart=>exact⟨0,Nat.zero_le _,rfl,fun i a h=>by omega,Below.refl _ _⟩
 case round =>
  obtain⟨k,hk,rfl,hn,hBV⟩:=hrel
  have hB:Hid (Below w.heap.size w wr):=hal.trans (hBV.out.mono hal.size)
  have HSr:Hid (Row flM.c 5 wr wr.heap.size (some ⟨g,0,none⟩) l):=HS.out.inn hB.out
  have HBX:Hid (wr.heap[w.heap.size]?=some (.cells #[.int .i64 m.q,.string m.x,.string m.k,.string m.b,.bool m.a] 48 (0,0))):=bstay HA.out hBV.out hVs
  have b0:wr.cell? ⟨w.heap.size,0,none⟩=some (.int .i64 m.q):=bcell HBX.out rfl
  have r9:k <= c:=by omega
  by_cases hkl:k<l.length
  ·have f0:decide ((k:Int)<(l.length:Int))=true:=by simp;omega
   have HG:Hid (l[k]?=some l[k]):=List.getElem?_eq_getElem hkl
   obtain⟨mk,he⟩:∃ e,l[k]=e:=⟨_,rfl⟩
   rw [he] at HG
   have a0:wr.cell? ⟨g,k*5,none⟩=some (.int .i64 mk.q):=row_cell HSr.out HG.out
   have i2:(k:Int)<(l.length:Int):=by omega
   clear he
   by_cases hq:mk.q<m.q
   ·have hq1:decide (mk.q<m.q)=true:=by simpa using hq
    have hn2:Hid (∀ (i:Nat) a,i<k+1->l[i]?=some a->a.q<m.q):=fun i a hi ha=>by
     by_cases ei:i=k
     ·subst ei;rw [HG.out] at ha;cases ha;exact hq
     ·exact hn.out i a (by omega) ha
    go_wp2
    go_quiet (fail)
    have hBV2:Hid (Below V.heap.size V (wr.drewN nq)):=qts.bdrewN hBV.out _
    go_wp2
    go_roundw
    case rel=>exact⟨k+1,by omega,by go_num,hn2,hBV2⟩
    case measure=>simp [intOf];omega
   ·have hq1:decide (mk.q<m.q)=false:=by simpa using hq
    have HPT:Hid (back l m=l.take k++[m]++l.drop k):=back_at (at_of hn.out (fun e he=>by rw [HG.out] at he;cases he;exact hq) hk)
    have r4:¬ c=k:=by omega
    have r10:k <= l.length:=by omega
    have HRL:Hid ((l.drop k).length=l.length - k):=by show (l.drop k).length=l.length - k;simp
    go_wp2
    go_quiet (fail)
    obtain⟨X,hX⟩:∃ X,wr.drewN nq=X:=⟨_,rfl⟩
    have hWX:Below wr.heap.size wr X:=by rw [<- hX];exact qts.bdrewN (Below.refl _ _) _
    rw [hX]
    have hBX:Hid (Below w.heap.size w X):=hB.out.trans (hWX.mono hB.out.size)
    have HSX:Hid (Row flM.c 5 X X.heap.size (some ⟨g,0,none⟩) l):=HSr.out.inn hWX
    have HBY:Hid (X.heap[w.heap.size]?=some (.cells #[.int .i64 m.q,.string m.x,.string m.k,.string m.b,.bool m.a] 48 (0,0))):=bstay HBX.out hWX (Array.getElem?_eq_some_iff.1 HBX.out).1
    clear hX
    go_wp2
    refine dk.region_gsets (ws g l.length c (k) (k*5) (l.length - k) (c - k) m) [22,23,24,25,26,27,28,29,30,31,32,33,4] (tas.C ⟨X,48,5,(l.take k).flatMap flM.c,[.int .i64 m.q,.string m.x,.string m.k,.string m.b,.bool m.a],(l.drop k).flatMap flM.c,k,l.length - k⟩ J0) ⟨0,.slice none 0 0,0,.slice none 0 0,.slice none 0 0,.slice none 0 0⟩ (by kernel_rfl) (by kernel_rfl) (fun _=>rfl) (by kernel_rfl) (tas.start _ _ _) ?each ?fin
    case each =>
     refine⟨tas.st0 (x:=J0) (d:=22) (idx:=0) J0_up (by simp) rfl (by simp) (fun g=>rfl) (fun g=>rfl) (fun g e=>rfl) (fun s W=>by simp [execOp,go_sem]),?_⟩
     refine⟨tas.quiet (by decide) (by simp) (.slice (some ⟨g,0,none⟩) l.length c) (by rintro s _ ⟨⟩;exact dk.sets_on _ (by simp) _ rfl) (fun s W h=>by simp [execOp,go_sem,Act.eval,dk.sets_get,ws,List.lookup]),?_⟩
     refine⟨tas.quiet (by decide) (by simp) (.int .i64 (k:Nat)) (by rintro s _ ⟨⟩;exact dk.sets_on _ (by simp) _ rfl) (fun s W h=>by simp [execOp,go_sem,Act.eval,dk.sets_get,ws,List.lookup]),?_⟩
     refine⟨tas.quiet (by decide) (by simp) (.slice (some ⟨g,0,none⟩) (k) c) (by rintro s _ ⟨⟩;exact dk.sets_on _ (by simp) _ rfl) (fun s W h=>by simp [execOp,go_sem,Act.eval,dk.sets_get,ws,List.lookup,r9]),?_⟩
     refine⟨tas.st1 (x:=J0) (d:=26) (s1:=22) (s2:=25) (idx:=4) (c:=c) (a:=⟨g,0,none⟩) J0_up Tryz.underlying65 hi hz0 hz1 hz2 rfl (by show 0<5;decide) rfl rfl ⟨by simp,by simp,by simp⟩ (fun g=>rfl) (fun g=>rfl) (fun g=>rfl) (fun g=>rfl) (fun g v=>rfl) (by show ((l.take k).flatMap flM.c).length=(k)*5;rw [flat_len flM.c_len,List.length_take,Nat.min_eq_left (by omega)]) (fun W hb=>news_take (HSX.out.inn hb) (k)) (qsp.oneY _) (by show k <= 1048576;omega) (by show (0+k)*64 <= 140737488355328;omega) ⟨⟨0,.data⟩,by simp,rfl,rfl⟩,?_⟩
     refine⟨tas.quiet (by decide) (by simp) (.agg #[.int .i64 m.q,.string m.x,.string m.k,.string m.b,.bool m.a]) (by rintro s _ ⟨⟩;exact dk.sets_on _ (by simp) _ rfl) (fun s W h=>by obtain⟨d0,d1,d2,d3,d4⟩:=box5 (h _ _ HBY.out);simp [execOp,go_sem,Act.eval,dk.sets_get,ws,List.lookup,d0,d1,d2,d3,d4]),?_⟩
     refine⟨tas.st2 (x:=J0) (d:=28) (idx:=6) J0_up (by simp) rfl (by simp) (fun g=>rfl) (fun g=>rfl) (fun g e=>rfl) (fun s W=>by simp [execOp,go_sem,Act.eval,dk.sets_get,ws,List.lookup]),?_⟩
     refine⟨tas.st3 (x:=J0) (d:=29) (s1:=26) (s2:=28) (idx:=7) J0_up Tryz.underlying65 hi hz0 hz1 hz2 rfl (by show 0<5;decide) rfl rfl ⟨by simp,by simp,by simp⟩ (fun g=>rfl) (fun g=>rfl) (fun g=>rfl) (fun g=>rfl) (fun g v=>rfl) rfl (by intro u hu;simp at hu;rcases hu with rfl | rfl | rfl | rfl | rfl <;> rfl) (by show k <= 1048576;omega) (by show (k+1)*64 <= 140737488355328;omega) ⟨⟨4,.data⟩,by simp,rfl,rfl⟩ ⟨⟨6,.data⟩,by simp,rfl,rfl⟩,?_⟩
     refine⟨tas.quiet (by decide) (by simp) (.slice (some ⟨g,0,none⟩) l.length c) (by rintro s _ ⟨⟩;exact dk.sets_on _ (by simp) _ rfl) (fun s W h=>by simp [execOp,go_sem,Act.eval,dk.sets_get,ws,List.lookup]),?_⟩
     refine⟨tas.quiet (by decide) (by simp) (.int .i64 (k:Nat)) (by rintro s _ ⟨⟩;exact dk.sets_on _ (by simp) _ rfl) (fun s W h=>by simp [execOp,go_sem,Act.eval,dk.sets_get,ws,List.lookup]),?_⟩
     refine⟨tas.quiet (by decide) (by simp) (.slice (some ⟨g,k*5,none⟩) (l.length - k) (c - k)) (by rintro s _ ⟨⟩;exact dk.sets_on _ (by simp) _ rfl) (fun s W h=>by simp [execOp,go_sem,Act.eval,dk.sets_get,ws,List.lookup,r4,r10]),?_⟩
     refine⟨tas.st4 (x:=J0) (d:=33) (s1:=29) (s2:=32) (idx:=11) (c:=c - k) (a:=⟨g,k*5,none⟩) J0_up Tryz.underlying65 hi hz0 hz1 hz2 rfl (by show 0<5;decide) rfl rfl ⟨by simp,by simp,by simp⟩ (fun g=>rfl) (fun g=>rfl) (fun g=>rfl) (fun g=>rfl) (fun g v=>rfl) (by show ((l.drop k).flatMap flM.c).length=(l.length - k)*5;rw [flat_len flM.c_len,HRL.out]) (fun W hb=>news_drop (HSX.out.inn hb) k (by omega)) (qsp.oneY _) (by show k <= 1048576/\l.length - k <= 1048576;omega) (by show (k+1+(l.length - k))*64 <= 140737488355328;omega) ⟨⟨7,.data⟩,by simp,rfl,rfl⟩,?_⟩
     exact⟨tas.st5 (x:=J0) (d:=4) (s1:=33) (idx:=12) J0_up rfl rfl ⟨by simp,by simp⟩ (fun g=>rfl) (fun g=>rfl) (fun g=>rfl) (fun g v=>rfl) ⟨⟨11,.data⟩,by simp,rfl,rfl⟩,trivial⟩
    case fin =>
     intro s L X3 hL hC
     obtain⟨hbl,hv4,hown⟩:=tas.done hC J0_up (N:=13) (by decide) hL
     replace hbl:Below X.heap.size X X3:=hbl
     replace hown:X3.ownsRow X.heap.size 48 5 s.v3 (k+1+(l.length - k)) ((l.take k).flatMap flM.c++[.int .i64 m.q,.string m.x,.string m.k,.string m.b,.bool m.a]++(l.drop k).flatMap flM.c):=hown
     have hlen:k+1+(l.length - k)=(back l m).length:=by have:=back_len l m;omega
     have hfl:(l.take k).flatMap flM.c++[.int .i64 m.q,.string m.x,.string m.k,.string m.b,.bool m.a]++(l.drop k).flatMap flM.c=(back l m).flatMap flM.c:=by rw [HPT.out];simp [flM.c]
     rw [hlen,hfl] at hown
     obtain⟨g5,c5,hv3⟩:∃ g5 c5,s.v3=.slice (some ⟨g5,0,none⟩) (back l m).length c5:=by
      obtain⟨_,⟨_,h0⟩ | ⟨g6,cap,cur,e,_⟩⟩:=hown
      ·omega
      ·exact⟨g6,cap,e⟩
     rw [hv3] at hown hv4
     have HOW:Hid (X3.ownsRow w.heap.size 48 5 (.slice (some ⟨g5,0,none⟩) (back l m).length c5) (back l m).length ((back l m).flatMap flM.c)):=qsp.own_low hown hBX.out.size
     have HBL:Hid (Below X.heap.size X X3):=hbl
     have HV4:Hid (s.v4=.slice (some ⟨g5,0,none⟩) (back l m).length c5):=hv4
     clear hC hL hbl hown hlen hfl hv3 hv4
     go_wp2
     refine bodyPost_ret (v:=.slice (some ⟨g5,0,none⟩) (back l m).length c5) (by simp [results,Tryz.results73,go_sem,dk.sets_get,ws,List.lookup,HV4.out]) rfl ?_
     exact⟨g5,c5,rfl,HOW.out,hBX.out.trans (HBL.out.mono hBX.out.size)⟩
  ·obtain rfl:k=l.length:=by omega
   have HPT:Hid (back l m=l.take l.length++[m]++l.drop l.length):=back_at (at_of hn.out (fun e he=>by simp at he) hk)
   have f0:decide ((l.length:Int)<(l.length:Int))=false:=by simp
   by_cases hck:c=l.length
   ·have r4:=hck
    have HRL:Hid ((l.drop l.length).length=0):=by show (l.drop l.length).length=0;simp
    go_wp2
    go_quiet (fail)
    obtain⟨X,hX⟩:∃ X,wr.drewN nq=X:=⟨_,rfl⟩
    have hWX:Below wr.heap.size wr X:=by rw [<- hX];exact qts.bdrewN (Below.refl _ _) _
    rw [hX]
    have hBX:Hid (Below w.heap.size w X):=hB.out.trans (hWX.mono hB.out.size)
    have HSX:Hid (Row flM.c 5 X X.heap.size (some ⟨g,0,none⟩) l):=HSr.out.inn hWX
    have HBY:Hid (X.heap[w.heap.size]?=some (.cells #[.int .i64 m.q,.string m.x,.string m.k,.string m.b,.bool m.a] 48 (0,0))):=bstay HBX.out hWX (Array.getElem?_eq_some_iff.1 HBX.out).1
    clear hX
    go_wp2
    refine dk.region_gsets (ws g l.length c (l.length) (0) (0) (0) m) [22,23,24,25,26,27,28,29,30,31,32,33,4] (tas.C ⟨X,48,5,(l.take l.length).flatMap flM.c,[.int .i64 m.q,.string m.x,.string m.k,.string m.b,.bool m.a],(l.drop l.length).flatMap flM.c,l.length,0⟩ J0) ⟨0,.slice none 0 0,0,.slice none 0 0,.slice none 0 0,.slice none 0 0⟩ (by kernel_rfl) (by kernel_rfl) (fun _=>rfl) (by kernel_rfl) (tas.start _ _ _) ?each ?fin
    case each =>
     refine⟨tas.st0 (x:=J0) (d:=22) (idx:=0) J0_up (by simp) rfl (by simp) (fun g=>rfl) (fun g=>rfl) (fun g e=>rfl) (fun s W=>by simp [execOp,go_sem]),?_⟩
     refine⟨tas.quiet (by decide) (by simp) (.slice (some ⟨g,0,none⟩) l.length c) (by rintro s _ ⟨⟩;exact dk.sets_on _ (by simp) _ rfl) (fun s W h=>by simp [execOp,go_sem,Act.eval,dk.sets_get,ws,List.lookup]),?_⟩
     refine⟨tas.quiet (by decide) (by simp) (.int .i64 (l.length:Nat)) (by rintro s _ ⟨⟩;exact dk.sets_on _ (by simp) _ rfl) (fun s W h=>by simp [execOp,go_sem,Act.eval,dk.sets_get,ws,List.lookup]),?_⟩
     refine⟨tas.quiet (by decide) (by simp) (.slice (some ⟨g,0,none⟩) (l.length) c) (by rintro s _ ⟨⟩;exact dk.sets_on _ (by simp) _ rfl) (fun s W h=>by simp [execOp,go_sem,Act.eval,dk.sets_get,ws,List.lookup,r9]),?_⟩
     refine⟨tas.st1 (x:=J0) (d:=26) (s1:=22) (s2:=25) (idx:=4) (c:=c) (a:=⟨g,0,none⟩) J0_up Tryz.underlying65 hi hz0 hz1 hz2 rfl (by show 0<5;decide) rfl rfl ⟨by simp,by simp,by simp⟩ (fun g=>rfl) (fun g=>rfl) (fun g=>rfl) (fun g=>rfl) (fun g v=>rfl) (by show ((l.take l.length).flatMap flM.c).length=(l.length)*5;rw [flat_len flM.c_len,List.length_take,Nat.min_eq_left (by omega)]) (fun W hb=>news_take (HSX.out.inn hb) (l.length)) (qsp.oneY _) (by show l.length <= 1048576;omega) (by show (0+l.length)*64 <= 140737488355328;omega) ⟨⟨0,.data⟩,by simp,rfl,rfl⟩,?_⟩
     refine⟨tas.quiet (by decide) (by simp) (.agg #[.int .i64 m.q,.string m.x,.string m.k,.string m.b,.bool m.a]) (by rintro s _ ⟨⟩;exact dk.sets_on _ (by simp) _ rfl) (fun s W h=>by obtain⟨d0,d1,d2,d3,d4⟩:=box5 (h _ _ HBY.out);simp [execOp,go_sem,Act.eval,dk.sets_get,ws,List.lookup,d0,d1,d2,d3,d4]),?_⟩
     refine⟨tas.st2 (x:=J0) (d:=28) (idx:=6) J0_up (by simp) rfl (by simp) (fun g=>rfl) (fun g=>rfl) (fun g e=>rfl) (fun s W=>by simp [execOp,go_sem,Act.eval,dk.sets_get,ws,List.lookup]),?_⟩
     refine⟨tas.st3 (x:=J0) (d:=29) (s1:=26) (s2:=28) (idx:=7) J0_up Tryz.underlying65 hi hz0 hz1 hz2 rfl (by show 0<5;decide) rfl rfl ⟨by simp,by simp,by simp⟩ (fun g=>rfl) (fun g=>rfl) (fun g=>rfl) (fun g=>rfl) (fun g v=>rfl) rfl (by intro u hu;simp at hu;rcases hu with rfl | rfl | rfl | rfl | rfl <;> rfl) (by show l.length <= 1048576;omega) (by show (l.length+1)*64 <= 140737488355328;omega) ⟨⟨4,.data⟩,by simp,rfl,rfl⟩ ⟨⟨6,.data⟩,by simp,rfl,rfl⟩,?_⟩
     refine⟨tas.quiet (by decide) (by simp) (.slice (some ⟨g,0,none⟩) l.length c) (by rintro s _ ⟨⟩;exact dk.sets_on _ (by simp) _ rfl) (fun s W h=>by simp [execOp,go_sem,Act.eval,dk.sets_get,ws,List.lookup]),?_⟩
     refine⟨tas.quiet (by decide) (by simp) (.int .i64 (l.length:Nat)) (by rintro s _ ⟨⟩;exact dk.sets_on _ (by simp) _ rfl) (fun s W h=>by simp [execOp,go_sem,Act.eval,dk.sets_get,ws,List.lookup]),?_⟩
     refine⟨tas.quiet (by decide) (by simp) (.slice (some ⟨g,0,none⟩) (0) (0)) (by rintro s _ ⟨⟩;exact dk.sets_on _ (by simp) _ rfl) (fun s W h=>by simp [execOp,go_sem,Act.eval,dk.sets_get,ws,List.lookup,r4]),?_⟩
     refine⟨tas.st4 (x:=J0) (d:=33) (s1:=29) (s2:=32) (idx:=11) (c:=0) (a:=⟨g,0,none⟩) J0_up Tryz.underlying65 hi hz0 hz1 hz2 rfl (by show 0<5;decide) rfl rfl ⟨by simp,by simp,by simp⟩ (fun g=>rfl) (fun g=>rfl) (fun g=>rfl) (fun g=>rfl) (fun g v=>rfl) (by show ((l.drop l.length).flatMap flM.c).length=(0)*5;rw [flat_len flM.c_len,HRL.out]) (fun W hb=>by rw [List.drop_length];intro j u hu;simp at hu) (qsp.oneY _) (by show l.length <= 1048576/\0 <= 1048576;omega) (by show (l.length+1+(0))*64 <= 140737488355328;omega) ⟨⟨7,.data⟩,by simp,rfl,rfl⟩,?_⟩
     exact⟨tas.st5 (x:=J0) (d:=4) (s1:=33) (idx:=12) J0_up rfl rfl ⟨by simp,by simp⟩ (fun g=>rfl) (fun g=>rfl) (fun g=>rfl) (fun g v=>rfl) ⟨⟨11,.data⟩,by simp,rfl,rfl⟩,trivial⟩
    case fin =>
     intro s L X3 hL hC
     obtain⟨hbl,hv4,hown⟩:=tas.done hC J0_up (N:=13) (by decide) hL
     replace hbl:Below X.heap.size X X3:=hbl
     replace hown:X3.ownsRow X.heap.size 48 5 s.v3 (l.length+1+(0)) ((l.take l.length).flatMap flM.c++[.int .i64 m.q,.string m.x,.string m.k,.string m.b,.bool m.a]++(l.drop l.length).flatMap flM.c):=hown
     have hlen:l.length+1+(0)=(back l m).length:=by have:=back_len l m;omega
     have hfl:(l.take l.length).flatMap flM.c++[.int .i64 m.q,.string m.x,.string m.k,.string m.b,.bool m.a]++(l.drop l.length).flatMap flM.c=(back l m).flatMap flM.c:=by rw [HPT.out];simp [flM.c]
     rw [hlen,hfl] at hown
     obtain⟨g5,c5,hv3⟩:∃ g5 c5,s.v3=.slice (some ⟨g5,0,none⟩) (back l m).length c5:=by
      obtain⟨_,⟨_,h0⟩ | ⟨g6,cap,cur,e,_⟩⟩:=hown
      ·omega
      ·exact⟨g6,cap,e⟩
     rw [hv3] at hown hv4
     have HOW:Hid (X3.ownsRow w.heap.size 48 5 (.slice (some ⟨g5,0,none⟩) (back l m).length c5) (back l m).length ((back l m).flatMap flM.c)):=qsp.own_low hown hBX.out.size
     have HBL:Hid (Below X.heap.size X X3):=hbl
     have HV4:Hid (s.v4=.slice (some ⟨g5,0,none⟩) (back l m).length c5):=hv4
     clear hC hL hbl hown hlen hfl hv3 hv4
     go_wp2
     refine bodyPost_ret (v:=.slice (some ⟨g5,0,none⟩) (back l m).length c5) (by simp [results,Tryz.results73,go_sem,dk.sets_get,ws,List.lookup,HV4.out]) rfl ?_
     exact⟨g5,c5,rfl,HOW.out,hBX.out.trans (HBL.out.mono hBX.out.size)⟩
   ·have r4:¬ c=l.length:=hck
    have HRL:Hid ((l.drop l.length).length=0):=by show (l.drop l.length).length=0;simp
    go_wp2
    go_quiet (fail)
    obtain⟨X,hX⟩:∃ X,wr.drewN nq=X:=⟨_,rfl⟩
    have hWX:Below wr.heap.size wr X:=by rw [<- hX];exact qts.bdrewN (Below.refl _ _) _
    rw [hX]
    have hBX:Hid (Below w.heap.size w X):=hB.out.trans (hWX.mono hB.out.size)
    have HSX:Hid (Row flM.c 5 X X.heap.size (some ⟨g,0,none⟩) l):=HSr.out.inn hWX
    have HBY:Hid (X.heap[w.heap.size]?=some (.cells #[.int .i64 m.q,.string m.x,.string m.k,.string m.b,.bool m.a] 48 (0,0))):=bstay HBX.out hWX (Array.getElem?_eq_some_iff.1 HBX.out).1
    clear hX
    go_wp2
    refine dk.region_gsets (ws g l.length c (l.length) (l.length*5) (0) (c - l.length) m) [22,23,24,25,26,27,28,29,30,31,32,33,4] (tas.C ⟨X,48,5,(l.take l.length).flatMap flM.c,[.int .i64 m.q,.string m.x,.string m.k,.string m.b,.bool m.a],(l.drop l.length).flatMap flM.c,l.length,0⟩ J0) ⟨0,.slice none 0 0,0,.slice none 0 0,.slice none 0 0,.slice none 0 0⟩ (by kernel_rfl) (by kernel_rfl) (fun _=>rfl) (by kernel_rfl) (tas.start _ _ _) ?each ?fin
    case each =>
     refine⟨tas.st0 (x:=J0) (d:=22) (idx:=0) J0_up (by simp) rfl (by simp) (fun g=>rfl) (fun g=>rfl) (fun g e=>rfl) (fun s W=>by simp [execOp,go_sem]),?_⟩
     refine⟨tas.quiet (by decide) (by simp) (.slice (some ⟨g,0,none⟩) l.length c) (by rintro s _ ⟨⟩;exact dk.sets_on _ (by simp) _ rfl) (fun s W h=>by simp [execOp,go_sem,Act.eval,dk.sets_get,ws,List.lookup]),?_⟩
     refine⟨tas.quiet (by decide) (by simp) (.int .i64 (l.length:Nat)) (by rintro s _ ⟨⟩;exact dk.sets_on _ (by simp) _ rfl) (fun s W h=>by simp [execOp,go_sem,Act.eval,dk.sets_get,ws,List.lookup]),?_⟩
     refine⟨tas.quiet (by decide) (by simp) (.slice (some ⟨g,0,none⟩) (l.length) c) (by rintro s _ ⟨⟩;exact dk.sets_on _ (by simp) _ rfl) (fun s W h=>by simp [execOp,go_sem,Act.eval,dk.sets_get,ws,List.lookup,r9]),?_⟩
     refine⟨tas.st1 (x:=J0) (d:=26) (s1:=22) (s2:=25) (idx:=4) (c:=c) (a:=⟨g,0,none⟩) J0_up Tryz.underlying65 hi hz0 hz1 hz2 rfl (by show 0<5;decide) rfl rfl ⟨by simp,by simp,by simp⟩ (fun g=>rfl) (fun g=>rfl) (fun g=>rfl) (fun g=>rfl) (fun g v=>rfl) (by show ((l.take l.length).flatMap flM.c).length=(l.length)*5;rw [flat_len flM.c_len,List.length_take,Nat.min_eq_left (by omega)]) (fun W hb=>news_take (HSX.out.inn hb) (l.length)) (qsp.oneY _) (by show l.length <= 1048576;omega) (by show (0+l.length)*64 <= 140737488355328;omega) ⟨⟨0,.data⟩,by simp,rfl,rfl⟩,?_⟩
     refine⟨tas.quiet (by decide) (by simp) (.agg #[.int .i64 m.q,.string m.x,.string m.k,.string m.b,.bool m.a]) (by rintro s _ ⟨⟩;exact dk.sets_on _ (by simp) _ rfl) (fun s W h=>by obtain⟨d0,d1,d2,d3,d4⟩:=box5 (h _ _ HBY.out);simp [execOp,go_sem,Act.eval,dk.sets_get,ws,List.lookup,d0,d1,d2,d3,d4]),?_⟩
     refine⟨tas.st2 (x:=J0) (d:=28) (idx:=6) J0_up (by simp) rfl (by simp) (fun g=>rfl) (fun g=>rfl) (fun g e=>rfl) (fun s W=>by simp [execOp,go_sem,Act.eval,dk.sets_get,ws,List.lookup]),?_⟩
     refine⟨tas.st3 (x:=J0) (d:=29) (s1:=26) (s2:=28) (idx:=7) J0_up Tryz.underlying65 hi hz0 hz1 hz2 rfl (by show 0<5;decide) rfl rfl ⟨by simp,by simp,by simp⟩ (fun g=>rfl) (fun g=>rfl) (fun g=>rfl) (fun g=>rfl) (fun g v=>rfl) rfl (by intro u hu;simp at hu;rcases hu with rfl | rfl | rfl | rfl | rfl <;> rfl) (by show l.length <= 1048576;omega) (by show (l.length+1)*64 <= 140737488355328;omega) ⟨⟨4,.data⟩,by simp,rfl,rfl⟩ ⟨⟨6,.data⟩,by simp,rfl,rfl⟩,?_⟩
     refine⟨tas.quiet (by decide) (by simp) (.slice (some ⟨g,0,none⟩) l.length c) (by rintro s _ ⟨⟩;exact dk.sets_on _ (by simp) _ rfl) (fun s W h=>by simp [execOp,go_sem,Act.eval,dk.sets_get,ws,List.lookup]),?_⟩
     refine⟨tas.quiet (by decide) (by simp) (.int .i64 (l.length:Nat)) (by rintro s _ ⟨⟩;exact dk.sets_on _ (by simp) _ rfl) (fun s W h=>by simp [execOp,go_sem,Act.eval,dk.sets_get,ws,List.lookup]),?_⟩
     refine⟨tas.quiet (by decide) (by simp) (.slice (some ⟨g,l.length*5,none⟩) (0) (c - l.length)) (by rintro s _ ⟨⟩;exact dk.sets_on _ (by simp) _ rfl) (fun s W h=>by simp [execOp,go_sem,Act.eval,dk.sets_get,ws,List.lookup,r4]),?_⟩
     refine⟨tas.st4 (x:=J0) (d:=33) (s1:=29) (s2:=32) (idx:=11) (c:=c - l.length) (a:=⟨g,l.length*5,none⟩) J0_up Tryz.underlying65 hi hz0 hz1 hz2 rfl (by show 0<5;decide) rfl rfl ⟨by simp,by simp,by simp⟩ (fun g=>rfl) (fun g=>rfl) (fun g=>rfl) (fun g=>rfl) (fun g v=>rfl) (by show ((l.drop l.length).flatMap flM.c).length=(0)*5;rw [flat_len flM.c_len,HRL.out]) (fun W hb=>by rw [List.drop_length];intro j u hu;simp at hu) (qsp.oneY _) (by show l.length <= 1048576/\0 <= 1048576;omega) (by show (l.length+1+(0))*64 <= 140737488355328;omega) ⟨⟨7,.data⟩,by simp,rfl,rfl⟩,?_⟩
     exact⟨tas.st5 (x:=J0) (d:=4) (s1:=33) (idx:=12) J0_up rfl rfl ⟨by simp,by simp⟩ (fun g=>rfl) (fun g=>rfl) (fun g=>rfl) (fun g v=>rfl) ⟨⟨11,.data⟩,by simp,rfl,rfl⟩,trivial⟩
    case fin =>
     intro s L X3 hL hC
     obtain⟨hbl,hv4,hown⟩:=tas.done hC J0_up (N:=13) (by decide) hL
     replace hbl:Below X.heap.size X X3:=hbl
     replace hown:X3.ownsRow X.heap.size 48 5 s.v3 (l.length+1+(0)) ((l.take l.length).flatMap flM.c++[.int .i64 m.q,.string m.x,.string m.k,.string m.b,.bool m.a]++(l.drop l.length).flatMap flM.c):=hown
     have hlen:l.length+1+(0)=(back l m).length:=by have:=back_len l m;omega
     have hfl:(l.take l.length).flatMap flM.c++[.int .i64 m.q,.string m.x,.string m.k,.string m.b,.bool m.a]++(l.drop l.length).flatMap flM.c=(back l m).flatMap flM.c:=by rw [HPT.out];simp [flM.c]
     rw [hlen,hfl] at hown
     obtain⟨g5,c5,hv3⟩:∃ g5 c5,s.v3=.slice (some ⟨g5,0,none⟩) (back l m).length c5:=by
      obtain⟨_,⟨_,h0⟩ | ⟨g6,cap,cur,e,_⟩⟩:=hown
      ·omega
      ·exact⟨g6,cap,e⟩
     rw [hv3] at hown hv4
     have HOW:Hid (X3.ownsRow w.heap.size 48 5 (.slice (some ⟨g5,0,none⟩) (back l m).length c5) (back l m).length ((back l m).flatMap flM.c)):=qsp.own_low hown hBX.out.size
     have HBL:Hid (Below X.heap.size X X3):=hbl
     have HV4:Hid (s.v4=.slice (some ⟨g5,0,none⟩) (back l m).length c5):=hv4
     clear hC hL hbl hown hlen hfl hv3 hv4
     go_wp2
     refine bodyPost_ret (v:=.slice (some ⟨g5,0,none⟩) (back l m).length c5) (by simp [results,Tryz.results73,go_sem,dk.sets_get,ws,List.lookup,HV4.out]) rfl ?_
     exact⟨g5,c5,rfl,HOW.out,hBX.out.trans (HBL.out.mono hBX.out.size)⟩
end Go.Proofs.YteoojodkkjepeaaGreat.qbs
namespace Go.Proofs.YteoojodkkjepeaaGreat.qrs
open ChangeShapes WideShapes ChangeAt RowKit fl qsp qdp qds qbk
structure RT (w:World)(sn:ByteArray)(nx:Int)(n8 B g1 c1:Nat)(L:List flM.Ms)(vb ub:Option Addr)(vc uc:Nat)(GL LL:List flH.Hd)(X:World):Prop where
 bel:Below w.heap.size w X
 res:X.heap[w.heap.size+1]?=some (.cells #[.string ⟨#[]⟩,.int .i64 0,.slice none 0 0,.slice none 0 0] 68 (0,0))
 out:X.heap[n8]?=some (.cells #[.string sn,.int .i64 nx,.slice (some ⟨g1,0,none⟩) L.length c1,.slice ub LL.length uc] 68 (0,0))
 oe:X.ownsRow (w.heap.size+2) 48 5 (.slice (some ⟨g1,0,none⟩) L.length c1) L.length (L.flatMap flM.c)
 av:All X B (.slice vb GL.length vc) GL
 au:All X B (.slice ub LL.length uc) LL
 h8:w.heap.size+2 <= n8
 hB:n8<B
 hS:B <= X.heap.size
section
variable {w:World} {sn:ByteArray} {nx:Int} {n8 B g1 c1:Nat} {L:List flM.Ms} {vb ub:Option Addr} {vc uc:Nat} {GL LL:List flH.Hd} {X X':World}
theorem RT.on (h:RT w sn nx n8 B g1 c1 L vb ub vc uc GL LL X)(hb:Below X.heap.size X X'):RT w sn nx n8 B g1 c1 L vb ub vc uc GL LL X' :=
 ⟨h.bel.trans (hb.mono h.bel.size),bstay h.res hb (Array.getElem?_eq_some_iff.1 h.res).1,bstay h.out hb (Array.getElem?_eq_some_iff.1 h.out).1,own_stay h.oe hb,h.av.on hb,h.au.on hb,h.h8,h.hB,Nat.le_trans h.hS hb.size⟩
theorem RT.cap (h:RT w sn nx n8 B g1 c1 L vb ub vc uc GL LL X):L.length <= c1:=by
 obtain⟨_,⟨h1,_⟩ | ⟨g',cap,cur,h1,_,_,h4,_⟩⟩:=h.oe
 ·cases h1
 ·have e2:=(Value.slice.inj h1).2.2
  omega
theorem RT.put {g2 c2:Nat}{L':List flM.Ms}{Y:World}(h:RT w sn nx n8 B g1 c1 L vb ub vc uc GL LL Y)(ho:Y.ownsRow X.heap.size 48 5 (.slice (some ⟨g2,0,none⟩) L'.length c2) L'.length (L'.flatMap flM.c))(hX:B <= X.heap.size):RT w sn nx n8 B g2 c2 L' vb ub vc uc GL LL (Y.setCell ⟨n8,2,none⟩ (.slice (some ⟨g2,0,none⟩) L'.length c2)):=by
 have h8:=h.h8
 have hB:=h.hB
 exact⟨h.bel.setCell (by show w.heap.size <= n8;omega) _,boff h.res n8 2 _ (by omega),bset h.out 2 (.slice (some ⟨g2,0,none⟩) L'.length c2),own_low (own_set ho n8 2 _ (by omega)) (by omega),all_set h.av hB,all_set h.au hB,h8,hB,by simpa using h.hS⟩
end
theorem cells7 {w:World}{B g k:Nat}{l:List flH.Hd}{e:flH.Hd}(h:Row flH.c 7 w B (some ⟨g,0,none⟩) l)(he:l[k]?=some e):w.cell? ⟨g,k*7+2,none⟩=some (.int .i64 e.m.q)/\w.cell? ⟨g,k*7+3,none⟩=some (.string e.m.x)/\w.cell? ⟨g,k*7+4,none⟩=some (.string e.m.k)/\w.cell? ⟨g,k*7+5,none⟩=some (.string e.m.b)/\w.cell? ⟨g,k*7+6,none⟩=some (.bool e.m.a):=by
 rcases h with h0 | ⟨b',off',hh,hlt,hc⟩
 ·rw [h0] at he;simp at he
 ·cases hh
  have:=fun j u (hj:(flH.c e)[j]?=some u)=>hc k _ he j u hj
  simp only [Nat.zero_add] at this
  exact⟨this 2 _ rfl,this 3 _ rfl,this 4 _ rfl,this 5 _ rfl,this 6 _ rfl⟩
theorem all_some {W:World}{B vc:Nat}{vb:Option Addr}{l:List flH.Hd}{e:flH.Hd}{k:Nat}(h:All W B (.slice vb l.length vc) l)(he:l[k]?=some e):∃ g,vb=some ⟨g,0,none⟩:=by
 rcases h with⟨h1,_⟩ | ⟨g,cap,h1,_⟩
 ·rw [h1] at he;simp at he
 ·exact⟨g,(Value.slice.inj h1).1⟩
theorem backs_take {l:List flM.Ms}{GL:List flH.Hd}{k:Nat}{e:flH.Hd}(he:GL[k]?=some e):backs l (GL.take (k+1))=back (backs l (GL.take k)) (again e):=by
 rw [List.take_add_one,he]
 exact backs_snoc _ _ _
end Go.Proofs.YteoojodkkjepeaaGreat.qrs
namespace Go.Proofs.YteoojodkkjepeaaGreat.qri
open ChangeShapes WideShapes ChangeAt RowKit fl fo qit qst qpu qpo qop qcl qsp qdp qpi qhn qdi qbk
theorem all_kt {W W':World}{B hb:Nat}{v:Value}{l:List flH.Hd}(h:All W B v l)(hk:Kt hb W W')(hhb:hb<B):All W' B v l:=by
 rcases h with h | ⟨g,cap,e,ho⟩
 ·exact .inl h
 ·refine(All.keep (.inr ⟨g,cap,e,ho⟩) fun g' hg'=>?_)
  rw [e] at hg'
  obtain⟨hBg,cur,hc⟩:=owns_at ho
  have:g=g':=by simpa [Value.ownBlock] using hg'
  subst this
  exact hk.2 g cur 102 hc (by decide) (by omega)
theorem all_ho2 {w w6:World}{B b hb g5:Nat}{ub:Option Addr}{uc gr:Nat}{l:List flH.Hd}(h:All w B (.slice ub l.length uc) l)(hg:w.heap.size <= gr)(hbl:b<w.heap.size)(hkq:Kq hb g5 w w6)(hrow:∃ cur,w.heap[g5]?=some (.cells cur 48 (0,0)))(hhb:hb<B):∃ k,(B <= k ∨ k=b)/\gr≠k/\HO w6 k ub l/\k<w.heap.size:=by
 rcases h with⟨e,_⟩ | ⟨k,cap,e,ho⟩
 ·exact⟨b,.inr rfl,by omega,.inl e,hbl⟩
 ·have hlt:=ho.lt k rfl
  cases e
  obtain⟨_,cur,hc⟩:=owns_at ho
  obtain⟨cur',hc'⟩:=hrow
  have hne:k≠g5:=by
   rintro rfl
   rw [hc] at hc'
   simp at hc'
  exact⟨k,.inl hlt.1,by omega,.inr ⟨rfl,(owns_ownO flH.c_len ho).kept (hkq.block k hlt.2 hne (by omega))⟩,hlt.2⟩
structure RI (w1:World)(hb:Nat)(Q:Qx)(g:Nat)(es:List flM.Ms)(B:Nat)(vb ub:Option Addr)(vc uc:Nat)(GL LL:List flH.Hd)(k:Nat)(M:List flM.Ms)(X:World):Prop where
 sn:SN w1 hb Q M X
 hp:hp.Heap less M M.length
 pm:M.Perm (es++(GL.take k).map again)
 sg:k=0->SG w1 hb Q g es.length es X/\M=es
 av:All X B (.slice vb GL.length vc) GL
 au:All X B (.slice ub LL.length uc) LL
 hbB:hb<B
 hS:B <= X.heap.size
section
variable {w1:World} {hb:Nat} {Q:Qx} {g:Nat} {es:List flM.Ms} {B:Nat} {vb ub:Option Addr} {vc uc:Nat} {GL LL:List flH.Hd} {k:Nat} {M M':List flM.Ms} {X Y:World}
theorem RI.on (h:RI w1 hb Q g es B vb ub vc uc GL LL k M X)(hb':Below X.heap.size X Y):RI w1 hb Q g es B vb ub vc uc GL LL k M Y :=
 ⟨SN.on h.sn hb',h.hp,h.pm,fun e=>⟨(h.sg e).1.on hb',(h.sg e).2⟩,h.av.on hb',h.au.on hb',h.hbB,Nat.le_trans h.hS hb'.size⟩
theorem RI.put {e:flH.Hd}(h:RI w1 hb Q g es B vb ub vc uc GL LL k M X)(he:GL[k]?=some e)(h1:M'.Perm (M++[again e]))(h2:hp.Heap less M' M'.length)(h3:SN w1 hb Q M' Y)(h4:Kt hb X Y):RI w1 hb Q g es B vb ub vc uc GL LL (k+1) M' Y:=by
 refine⟨h3,h2,?_,fun e=>by omega,all_kt h.av h4 h.hbB,all_kt h.au h4 h.hbB,h.hbB,Nat.le_trans h.hS h4.1⟩
 refine h1.trans ?_
 rw [List.take_add_one,he]
 simp only [Option.toList_some,List.map_append,List.map_cons,List.map_nil]
 rw [<- List.append_assoc]
 exact h.pm.append_right _
theorem RI.len (h:RI w1 hb Q g es B vb ub vc uc GL LL k M X)(hk:k <= GL.length):M.length=es.length+k:=by rw [h.pm.length_eq];simp [Nat.min_eq_left hk]
theorem RI.open (h:RI w1 hb Q g es B vb ub vc uc GL LL k M X)(hk:k <= GL.length):∃ g5 cap5,SG w1 hb Q g5 cap5 M X:=by
 by_cases h0:k=0
 ·obtain⟨h1,h2⟩:=h.sg h0
  rw [h2]
  exact⟨_,_,h1⟩
 ·exact h.sn.sg (fun e=>by have:=h.len hk;rw [e] at this;simp at this;omega)
end
theorem row7 {w:World}{B g k:Nat}{l:List flH.Hd}{e:flH.Hd}(h:Row flH.c 7 w B (some ⟨g,0,none⟩) l)(he:l[k]?=some e):∀ (j:Nat) (u:Value),(flH.c e)[j]?=some u->w.cell? ⟨g,k*7+j,none⟩=some u:=fun j u hj=>by
 rcases h with h0 | ⟨b',off',hh,hlt,hc⟩
 ·rw [h0] at he;simp at he
 ·cases hh
  have:=hc k _ he j u hj
  rwa [Nat.zero_add] at this
theorem put_back (w1:World)(hb:Nat)(Q:Qx)(g:Nat)(es:List flM.Ms)(B:Nat)(vb ub:Option Addr)(vc uc:Nat)(GL LL:List flH.Hd)(w3:World)(HR0:Hid (RI w1 hb Q g es B vb ub vc uc GL LL 0 es w3))(hgle:es.length+GL.length <= 900) :
  Calls Tryz.prog 147 #[.pointer (some ⟨hb,0,none⟩),.slice vb GL.length vc] w3 fun e w'=>e=.returned (.tuple #[])/\∃ M,Hid (RI w1 hb Q g es B vb ub vc uc GL LL GL.length M w'):=by
 go_enter Tryz.func147,Tryz.ntmps147
 go_wp2
 go_loopw [8] (fun v wr=>∃ k:Nat,k <= GL.length/\v=.int .i64 k/\∃ M,Hid (RI w1 hb Q g es B vb ub vc uc GL LL k M wr)) (fun v _=>GL.length - (intOf v).toNat)
 case atStart=>exact⟨0,Nat.zero_le _,rfl,_,HR0⟩
 case round =>
  obtain⟨k,hk,rfl,M,hR⟩:=hrel
  clear HR0
  have HML:Hid (M.length=es.length+k):=hR.out.len hk
  by_cases hkl:k<GL.length
  ·have i2:(k:Int)<(GL.length:Int):=by omega
   have HG:Hid (GL[k]?=some GL[k]):=List.getElem?_eq_getElem hkl
   obtain⟨⟨ht,ho,⟨q,x,y,z,ag⟩⟩,he⟩:∃ e,GL[k]=e:=⟨_,rfl⟩
   rw [he] at HG
   obtain⟨v0,rfl⟩:=qrs.all_some hR.out.av HG.out
   have cs:=row7 hR.out.av.row HG.out
   have c0:wr.cell? ⟨v0,k*7,none⟩=some (.int .i64 ht):=cs 0 _ rfl
   have c1:wr.cell? ⟨v0,k*7+1,none⟩=some (.int .i64 ho):=cs 1 _ rfl
   have c2:wr.cell? ⟨v0,k*7+2,none⟩=some (.int .i64 q):=cs 2 _ rfl
   have c3:wr.cell? ⟨v0,k*7+3,none⟩=some (.string x):=cs 3 _ rfl
   have c4:wr.cell? ⟨v0,k*7+4,none⟩=some (.string y):=cs 4 _ rfl
   have c5:wr.cell? ⟨v0,k*7+5,none⟩=some (.string z):=cs 5 _ rfl
   have c6:wr.cell? ⟨v0,k*7+6,none⟩=some (.bool ag):=cs 6 _ rfl
   have hst:=fl.bl wr (.cells #[.int .i64 ht,.int .i64 ho,.int .i64 q,.string x,.string y,.string z,.bool true] 102)
   have HRW:Hid (RI w1 hb Q g es B (some ⟨v0,0,none⟩) ub vc uc GL LL k M (wr.alloc (.cells #[.int .i64 ht,.int .i64 ho,.int .i64 q,.string x,.string y,.string z,.bool true] 102))):=hR.out.on hst
   have hpt:=put_run w1 Q hb M ⟨q,x,y,z,true⟩ (wr.alloc (.cells #[.int .i64 ht,.int .i64 ho,.int .i64 q,.string x,.string y,.string z,.bool true] 102)) HRW.out.sn HRW.out.hp (by have:=HML.out;omega)
   clear he cs hst hR
   go_wp2_with (go_at_call 183;fail)
   refine hpt.mono ?_
   rintro e w4 ⟨rfl,M',hMp,hMh,hsn,hkt⟩
   have HRN:Hid (RI w1 hb Q g es B (some ⟨v0,0,none⟩) ub vc uc GL LL (k+1) M' w4):=HRW.out.put HG.out hMp hMh hsn hkt
   clear hpt hMp hMh hsn hkt c0 c1 c2 c3 c4 c5 c6 HRW
   go_wp2
   go_roundw
   case rel=>exact⟨k+1,by omega,by go_num,_,HRN⟩
   case measure=>simp [intOf];omega
  ·obtain rfl:k=GL.length:=by omega
   have HF:Hid (∃ M,Hid (RI w1 hb Q g es B vb ub vc uc GL LL GL.length M wr)):=⟨M,hR⟩
   clear hR HML
   go_wp2
   go_end0
   exact⟨rfl,HF.out⟩
end Go.Proofs.YteoojodkkjepeaaGreat.qri
