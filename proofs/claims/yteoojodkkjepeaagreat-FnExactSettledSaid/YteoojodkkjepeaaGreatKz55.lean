/- SettledWalks. -/
import Derived.Test.YteoojodkkjepeaaGreatKz54
set_option maxRecDepth 100000
set_option maxHeartbeats 8000000
set_option linter.unusedVariables false
namespace Go.Proofs.YteoojodkkjepeaaGreat.stw
open ChangeShapes WideShapes ChangeAt RowKit rr ra rt fl co eb cn cb
theorem spec_settled {es:List Ex} {bs:List Bi} {qs ks:List qu.E} {ts us:List su.E} {w:World} {B ge gb gq gt:Nat} (ec bc qc tc:Nat) (F:cb.Fit es bs qs ts) (h:Cg w B es bs qs ts ge gb gq gt ks us) :
  Calls Tryz.prog 28 #[.agg #[.slice (some ⟨ge,0,none⟩) es.length ec,.slice (some ⟨gb,0,none⟩) bs.length bc,.slice (some ⟨gq,0,none⟩) qs.length qc,.slice (some ⟨gt,0,none⟩) ts.length tc]] w fun e w'=>∃ sea sba sqa sta sec sbc sqc stc ls vs,e=.returned (.agg #[.slice sea es.length sec,.slice sba bs.length sbc,.slice sqa (setQ es bs qs ts).length sqc,.slice sta ts.length stc])/\Hid (SA w w' es bs (setQ es bs qs ts) ts sea sba sqa sta ls vs):=by
 have sm:=same_of h
 have F2:=fit_same F sm
 obtain ⟨p1,p2,p3,p4,p5,p6⟩:=nkw.parts h
 have hok:=nkw.ok_spec ec bc qc tc F h
 have hok2:okC es bs ks us=okC es bs qs ts:=ok_same sm
 unfold setQ
 cases hc:okC es bs qs ts with
 | false =>
  rw [hc] at hok
  have k:=sts2.spec_no es bs ks us ge gb gq gt ec bc qc tc w F2 p1 p2 p3 p4 p5 p6 hok
  rw [sm.ql,sm.tl] at k
  refine k.mono ?_
  rintro e w' ⟨sea,sba,sqa,sta,sec,sbc,sqc,stc,ls,vs,rfl,HSA⟩
  exact ⟨sea,sba,sqa,sta,sec,sbc,sqc,stc,ls,vs,by rw [done_len,done_len,sm.ql],nkw.sa_turn HSA.out (nkw.done_congr false sm)⟩
 | true =>
  rw [hc] at hok
  have k:=sts2.spec_yes es bs ks us ge gb gq gt ec bc qc tc w F2 p1 p2 p3 p4 p5 p6 hok (by rw [sm.ql]; exact nkw.okl hc) (okq (by rw [hok2]; exact hc))
  rw [sm.ql,sm.tl] at k
  refine k.mono ?_
  rintro e w' ⟨sea,sba,sqa,sta,sec,sbc,sqc,stc,ls,vs,rfl,HSA⟩
  exact ⟨sea,sba,sqa,sta,sec,sbc,sqc,stc,ls,vs,by rw [done_len,done_len,sm.ql],nkw.sa_turn HSA.out (nkw.done_congr true sm)⟩
end Go.Proofs.YteoojodkkjepeaaGreat.stw
