/- FnExactCoreQueue: at every core, name and kind the program's CoreQueue answers as the specification's, every field, writes into no argument, and its answer owns its memory; for every input. -/
import Derived.Test.YtaoefccgdfcchaaGreatKq40
import Derived.WalkKit
import Derived.ProofKit
import Derived.OpenShut
import Derived.ShutString
import Derived.Below
import Derived.OpenVars
set_option maxRecDepth 100000
set_option maxHeartbeats 8000000
set_option linter.unusedVariables false
namespace Go.Proofs.YtaoefccgdfcchaaGreat.fnExactCoreQueue
open ChangeShapes WideShapes ChangeAt RowKit
open Go.ChangeMaps (open_string shut_string)
theorem own:ownKnob Tryz.prog.godebug=none:=by kernel_rfl
theorem laidOut:laidOutB Tryz.prog=true:=by kernel_rfl
theorem walk (es0:List rr.Ex) (bs0:List rr.Bi) (qs0:List qu.E) (ts0:List su.E) (ea0 ba0 qa0 ta0:Option Addr) (ec0 bc0 qc0 tc0:Nat) (a1:ByteArray) (w1:a1.size <= maxLen) (a2:Bool) (w:World)  (hin0:ca.In w es0 bs0 qs0 ts0 ea0 ba0 qa0 ta0) :
  Calls Tryz.prog 3 #[.agg #[.slice ea0 es0.length ec0,.slice ba0 bs0.length bc0,.slice qa0 qs0.length qc0,.slice ta0 ts0.length tc0],.string a1,.bool a2] w fun e w'=>e=.returned (.bool true)/\Below w.heap.size w w':=by
 exact lwCoreQueue.walk es0 bs0 qs0 ts0 ea0 ba0 qa0 ta0 ec0 bc0 qc0 tc0 a1 a2 w hin0 w1
theorem lifted (os:Os) (started:os.Started) (H:Type) (enc:TypeId × Value->H) :
  ReturnsInHanded {} Tryz.checked os 3 .any (Rows.fnExactCoreQueueSpec.pre6 enc Tryz.prog Tryz.f3 Rows.fnExactCoreQueueRow.domain false) (Rows.fnExactCoreQueueSpec.post enc Tryz.prog Tryz.f3 false true false false):=by
 refine returnsInHanded_of_change (C:=Tryz.checked) own started (by kernel_rfl) Tryz.func3
  (ChangeSpec.witness6 (enc:=enc) (C:=Tryz.checked) false ⟨#[],#[.agg #[.slice none 0 0,.slice none 0 0,.slice none 0 0,.slice none 0 0],.string ByteArray.empty,.bool false],[]⟩ 8 (by kernel_rfl) (by kernel_rfl) (by kernel_rfl) (by kernel_rfl)) ?_
 intro W base args ds gs before hval0 hW hcnd _
 have hval:∀ (j:Nat) t v,Tryz.f3.params[j]?=some t->args[j]?=some v->Value.okWide Tryz.prog W .any base t v:=hval0
 have hW':=hW
 obtain ⟨p,q,hA0,hV,hb,hfz,hnd⟩:=hW
 have hA:DataW.TrodAll enc Tryz.prog W 0 (fun _=>true) true Tryz.f3.params.toList args.toList ds p:=hA0
 rw [Tryz.params3] at hA hval
 obtain ⟨v0,vs0,d0,ds0,p0,q0,hargs,rfl,rfl,h0,r0⟩:=trodAll_cons hA
 obtain ⟨v1,vs1,d1,ds1,p1,q1,rfl,rfl,rfl,h1,r1⟩:=trodAll_cons r0
 obtain ⟨v2,vs2,d2,ds2,p2,q2,rfl,rfl,rfl,h2,r2⟩:=trodAll_cons r1
 obtain ⟨rfl,rfl,rfl⟩:=trodAll_nil r2
 obtain rfl:args=#[v0,v1,v2]:=by cases args; simp_all
 obtain ⟨rfl,rfl⟩:=trodVars_none hV
 have k0:=h0
 have lt0:∀ x ∈ p0,x.block < W.heap.size:=by obtain ⟨m,hm⟩:=k0; exact DataW.trod_lt m _ _ _ hm
 obtain ⟨es0,bs0,qs0,ts0,ea0,ba0,qa0,ta0,ec0,bc0,qc0,tc0,rfl,hin0⟩:=ca.open_core (hval 0 29 v0 rfl rfl) h0
 obtain ⟨a1,rfl,rfl,rfl,w1⟩:=open_string Tryz.underlying9 (hval 1 9 v1 rfl rfl) h1
 obtain ⟨a2,rfl,rfl,rfl⟩:=open_bool Tryz.underlying4 (hval 2 4 v2 rfl rfl) h2
 clear hA0 hval0
 refine (walk es0 bs0 qs0 ts0 ea0 ba0 qa0 ta0 ec0 bc0 qc0 tc0 a1 w1 a2 W  hin0).mono fun e W' ⟨he,hg⟩=>?_
 subst he
 exact ⟨_,rfl,_,_,_,[],_,[],hW',(trodAll_cons_mk (shut_bool Tryz.underlying4 _) trodAll_mk0),(trodAll_cons_mk (Below.trod laidOut (by kernel_rfl) (of_decide_eq_true (by kernel_rfl)) k0 hg lt0) (trodAll_cons_mk (shut_string Tryz.underlying9 w1) (trodAll_cons_mk (shut_bool Tryz.underlying4 _) trodAll_mk0))),rfl,hg.frame _,fun h=>by cases h⟩
theorem over:Rows.fnExactCoreQueueRow.holds Tryz.pinned (OpenSpec.ofChange Rows.fnExactCoreQueueSpec) :=
 OpenClaim.holds_of_wide 3 Tryz.f3 rfl rfl rfl rfl rfl rfl rfl ⟨rfl,rfl,rfl,rfl,rfl⟩ rfl rfl rfl rfl rfl (by kernel_rfl) Tryz.func3 (by kernel_rfl)
  (of_decide_eq_true (by kernel_rfl)) (by unfold Func.isWrapper; first | (rw [if_pos (by decide +kernel)]; kernel_rfl) | (rw [if_neg (by decide +kernel)]; exact ⟨rfl,rfl⟩))
  (fun os started H enc _=>lifted os started H enc)
theorem proved:Rows.FnExactCoreQueueSaid:=over
#print axioms proved
end Go.Proofs.YtaoefccgdfcchaaGreat.fnExactCoreQueue
