/- ChainMore, CopyMsg. -/
import Derived.Test.YtaoefccgdfcchaaGreatKq29
import Derived.Test.YtaoefccgdfcchaaGreatKq02
import Derived.Test.YtaoefccgdfcchaaGreatKq10
set_option maxRecDepth 100000
set_option maxHeartbeats 8000000
set_option linter.unusedVariables false
namespace Go.Proofs.YtaoefccgdfcchaaGreat.chm
open dn chn
section
variable {σ:Type} {P:Program} {act:Act} {ws:σ->List (Nat × Value)} {l:List Oper} {js:List Nat} {S:σ->Nat->World->Prop} {Q:Exit->Act->World->Prop} {i:Nat} {o:Oper}
theorem at2 {L:Nat->Bool} {k m:Nat} (hc:∀ (i:Nat) (o:Oper),l[i]?=some o->L i=true->∀ e ∈ o.after,Region.binds .any e=true->L e.on=true) (hk:∀ (m j:Nat),js[m]?=some j->L j=decide (m < k)) (hm:js[m]?=some i) (h0:L i=false)
  (hdep:∃ e ∈ o.after,Region.binds .any e=true/\∃ o',l[e.on]?=some o'/\∃ e' ∈ o'.after,Region.binds .any e'=true/\js[m - 1]?=some e'.on) (hd:∀ e ∈ o.after,Region.binds .any e=true->L e.on=true):k=m:=by
 have h1:=hk m i hm
 rw [h0] at h1
 have h2:¬ m < k:=fun h=>by simp [h] at h1
 obtain ⟨e,he,hb,o',hl,e',he',hb',hj⟩:=hdep
 have h3:=hk (m - 1) e'.on hj
 rw [hc e.on o' hl (hd e he hb) e' he' hb'] at h3
 have h4:m - 1 < k:=by simpa using h3.symm
 omega
theorem eff2 (m:Nat) (hl:l[i]?=some o) (hnd:js.Nodup) (hm:js[m]?=some i) (hdep:∃ e ∈ o.after,Region.binds .any e=true/\∃ o',l[e.on]?=some o'/\∃ e' ∈ o'.after,Region.binds .any e'=true/\js[m - 1]?=some e'.on) (hsel:∀ cs b,o.op ≠ .select cs b)
  (h:∀ s W,S s m W->∃ s' v w',gh.Agree o (dk.sets act (ws s)) (dk.sets act (ws s'))/\(∀ d,o.dst=some d->(dk.sets act (ws s')).tmps[d]?=some v)/\(execOp (dk.sets act (ws s)).eval o).run P W=.ok (.value v) w'/\S s' (m+1) w'):gh.Step P (fun s=>dk.sets act (ws s)) (Cn l js S) Q i o:=by
 refine gh.step_val hsel fun s L W hdp h0 hC=>?_
 obtain ⟨hc,k,hk,hL,hS⟩:=hC
 obtain rfl:=at2 hc hL hm h0 hdep hdp
 obtain ⟨s',v,w',h1,h2,h3,h4⟩:=h s W hS
 have hlt:=(List.getElem?_eq_some_iff.1 hm).1
 exact ⟨s',v,h1,h2,val h3 ⟨shut hl hdp hc,k+1,hlt,next_m hnd hm hL,h4⟩⟩
theorem call (m:Nat) (hl:l[i]?=some o) (hnd:js.Nodup) (hm:js[m]?=some i) (hdep:m=0 ∨ ∃ e ∈ o.after,Region.binds .any e=true/\js[m - 1]?=some e.on) (hsel:∀ cs b,o.op ≠ .select cs b) (f:FuncId) (args:σ->Array Value)
  (h:∀ s W,S s m W->(execOp (dk.sets act (ws s)).eval o).run P W=.ok (.enter f (args s)) W/\Calls P f (args s) W fun e w'=>∃ s' v,e=.returned v/\gh.Agree o (dk.sets act (ws s)) (dk.sets act (ws s'))/\(∀ d,o.dst=some d->(dk.sets act (ws s')).tmps[d]?=some v)/\S s' (m+1) w'):gh.Step P (fun s=>dk.sets act (ws s)) (Cn l js S) Q i o:=by
 intro s L w a ha hdp h0 hC K hK
 obtain ⟨hc,k,hk,hL,hS⟩:=hC
 obtain rfl:=at_m hL hm h0 hdep hdp
 obtain ⟨hr,hcl⟩:=h s w hS
 have hlt:=(List.getElem?_eq_some_iff.1 hm).1
 unfold Oper.wp
 rw [execOp_congr o hsel ha,hr]
 simp only [Oper.upon]
 exact hcl.mono fun e w'' ⟨s',v,he,hag,hv,hS'⟩=>by subst he; exact hK s' _ _ hag hv ⟨shut hl hdp hc,k+1,hlt,next_m hnd hm hL,hS'⟩
end
end Go.Proofs.YtaoefccgdfcchaaGreat.chm
namespace Go.Proofs.YtaoefccgdfcchaaGreat.cmg
open ChangeShapes WideShapes ChangeAt RowKit fl
theorem copy_msg (e:flM.Ms) (w:World) (hx:e.x.size <= 1048576/\e.k.size <= 1048576/\e.b.size <= 1048576):Calls Tryz.prog 105 #[.agg #[.int .i64 e.q,.string e.x,.string e.k,.string e.b,.bool e.a]] w fun r w'=>r=.returned (.agg #[.int .i64 e.q,.string e.x,.string e.k,.string e.b,.bool e.a])/\Below w.heap.size w w':=by
 obtain ⟨q,x,k,b,a⟩:=e
 obtain ⟨h1,h2,h3⟩:=hx
 simp only at h1 h2 h3 ⊢
 have c1:=fun W=>cl.clone x W (by omega)
 have c2:=fun W=>cl.clone k W (by omega)
 have c3:=fun W=>cl.clone b W (by omega)
 obtain ⟨W,hW,hb0,hA,hR,_⟩:=fl.bx2 w #[.int .i64 q,.string x,.string k,.string b,.bool a] #[.int .i64 0,.string ⟨#[]⟩,.string ⟨#[]⟩,.string ⟨#[]⟩,.bool false] 129 129
 have x1:W.cell? ⟨w.heap.size,1,none⟩=some (.string x):=bcell hA rfl
 have HA:Hid (W.heap[w.heap.size]?=some (.cells #[.int .i64 q,.string x,.string k,.string b,.bool a] 129 (0,0))):=hA
 have HR:Hid (W.heap[w.heap.size+1]?=some (.cells #[.int .i64 0,.string ⟨#[]⟩,.string ⟨#[]⟩,.string ⟨#[]⟩,.bool false] 129 (0,0))):=hR
 clear hA hR
 go_enter Tryz.func105,Tryz.ntmps105
 go_wp2_with (go_at_call 26; fail)
 clear hW
 refine (c1 _).mono ?_
 rintro e w1 ⟨rfl,hb1⟩
 have hl1:=(Array.getElem?_eq_some_iff.1 HR.out).1
 have a1:=bstay HA.out hb1 (by omega)
 have r1:=bstay HR.out hb1 hl1
 have y1:w1.cell? ⟨w.heap.size,1,none⟩=some (.string x):=bcell a1 rfl
 have y1f:=bfree a1 1
 have p1:=bset a1 1 (.string x)
 have s1:=boff r1 w.heap.size 1 (.string x) (by omega)
 have hB1:Below w.heap.size w (w1.setCell ⟨w.heap.size,1,none⟩ (.string x)):=(hb0.trans (hb1.mono hb0.size)).setCell (Nat.le_refl _) _
 obtain ⟨V1,hV1⟩:∃ V,w1.setCell ⟨w.heap.size,1,none⟩ (.string x)=V:=⟨_,rfl⟩
 rw [hV1] at p1 s1 hB1
 have A1:Hid (V1.heap[w.heap.size]?=some (.cells #[.int .i64 q,.string x,.string k,.string b,.bool a] 129 (0,0))):=p1
 have R1:Hid (V1.heap[w.heap.size+1]?=some (.cells #[.int .i64 0,.string ⟨#[]⟩,.string ⟨#[]⟩,.string ⟨#[]⟩,.bool false] 129 (0,0))):=s1
 have x2:V1.cell? ⟨w.heap.size,2,none⟩=some (.string k):=bcell A1.out rfl
 clear a1 r1 p1 s1 x1 c1 HA HR hb1
 go_wp2_with (go_at_call 26; fail)
 clear hV1 y1 y1f
 refine (c2 _).mono ?_
 rintro e w2 ⟨rfl,hb2⟩
 have hl2:=(Array.getElem?_eq_some_iff.1 R1.out).1
 have a2:=bstay A1.out hb2 (by omega)
 have r2:=bstay R1.out hb2 hl2
 have y2:w2.cell? ⟨w.heap.size,2,none⟩=some (.string k):=bcell a2 rfl
 have y2f:=bfree a2 2
 have p2:=bset a2 2 (.string k)
 have s2:=boff r2 w.heap.size 2 (.string k) (by omega)
 have hB2:Below w.heap.size w (w2.setCell ⟨w.heap.size,2,none⟩ (.string k)):=(hB1.trans (hb2.mono hB1.size)).setCell (Nat.le_refl _) _
 obtain ⟨V2,hV2⟩:∃ V,w2.setCell ⟨w.heap.size,2,none⟩ (.string k)=V:=⟨_,rfl⟩
 rw [hV2] at p2 s2 hB2
 have A2:Hid (V2.heap[w.heap.size]?=some (.cells #[.int .i64 q,.string x,.string k,.string b,.bool a] 129 (0,0))):=p2
 have R2:Hid (V2.heap[w.heap.size+1]?=some (.cells #[.int .i64 0,.string ⟨#[]⟩,.string ⟨#[]⟩,.string ⟨#[]⟩,.bool false] 129 (0,0))):=s2
 have x3:V2.cell? ⟨w.heap.size,3,none⟩=some (.string b):=bcell A2.out rfl
 clear a2 r2 p2 s2 x2 c2 A1 R1 hB1 hb2
 go_wp2_with (go_at_call 26; fail)
 clear hV2 y2 y2f
 refine (c3 _).mono ?_
 rintro e w3 ⟨rfl,hb3⟩
 have hl3:=(Array.getElem?_eq_some_iff.1 R2.out).1
 have a3:=bstay A2.out hb3 (by omega)
 have r3:=bstay R2.out hb3 hl3
 have y3:w3.cell? ⟨w.heap.size,3,none⟩=some (.string b):=bcell a3 rfl
 have y3f:=bfree a3 3
 have p3:=bset a3 3 (.string b)
 have s3:=boff r3 w.heap.size 3 (.string b) (by omega)
 have hB3:Below w.heap.size w (w3.setCell ⟨w.heap.size,3,none⟩ (.string b)):=(hB2.trans (hb3.mono hB2.size)).setCell (Nat.le_refl _) _
 obtain ⟨V3,hV3⟩:∃ V,w3.setCell ⟨w.heap.size,3,none⟩ (.string b)=V:=⟨_,rfl⟩
 rw [hV3] at p3 s3 hB3
 have A3:Hid (V3.heap[w.heap.size]?=some (.cells #[.int .i64 q,.string x,.string k,.string b,.bool a] 129 (0,0))):=p3
 have R3:Hid (V3.heap[w.heap.size+1]?=some (.cells #[.int .i64 0,.string ⟨#[]⟩,.string ⟨#[]⟩,.string ⟨#[]⟩,.bool false] 129 (0,0))):=s3
 clear a3 r3 p3 s3 x3 c3 A2 R2 hB2 hb3
 have n0:V3.cell? ⟨w.heap.size,0,none⟩=some (.int .i64 q):=bcell A3.out rfl
 have z0:V3.cell? ⟨w.heap.size+1,0,none⟩=some (.int .i64 0):=bcell R3.out rfl
 have f0:=bfree R3.out 0
 have n1:V3.cell? ⟨w.heap.size,1,none⟩=some (.string x):=bcell A3.out rfl
 have z1:V3.cell? ⟨w.heap.size+1,1,none⟩=some (.string ⟨#[]⟩):=bcell R3.out rfl
 have f1:=bfree R3.out 1
 have n2:V3.cell? ⟨w.heap.size,2,none⟩=some (.string k):=bcell A3.out rfl
 have z2:V3.cell? ⟨w.heap.size+1,2,none⟩=some (.string ⟨#[]⟩):=bcell R3.out rfl
 have f2:=bfree R3.out 2
 have n3:V3.cell? ⟨w.heap.size,3,none⟩=some (.string b):=bcell A3.out rfl
 have z3:V3.cell? ⟨w.heap.size+1,3,none⟩=some (.string ⟨#[]⟩):=bcell R3.out rfl
 have f3:=bfree R3.out 3
 have n4:V3.cell? ⟨w.heap.size,4,none⟩=some (.bool a):=bcell A3.out rfl
 have z4:V3.cell? ⟨w.heap.size+1,4,none⟩=some (.bool false):=bcell R3.out rfl
 have f4:=bfree R3.out 4
 go_wp2
 exact bodyPost_ret (v:=.agg #[.int .i64 q,.string x,.string k,.string b,.bool a]) (by simp [results,Tryz.results105,go_sem,z0,z1,z2,z3,z4]) rfl ⟨rfl,(((((hB3.setCell (by show w.heap.size <= w.heap.size+1; omega) _).setCell (by show w.heap.size <= w.heap.size+1; omega) _).setCell (by show w.heap.size <= w.heap.size+1; omega) _).setCell (by show w.heap.size <= w.heap.size+1; omega) _).setCell (by show w.heap.size <= w.heap.size+1; omega) _)⟩
end Go.Proofs.YtaoefccgdfcchaaGreat.cmg
