/- FnExactSettled: at every core the program's Settled answers as the specification's, every field, writes into no argument, and its answer owns its memory; for every input. -/
import Derived.Test.YteoojodkkjepeaaGreatKz56
import Derived.WalkKit
import Derived.ProofKit
import Derived.OpenShut
import Derived.ShutString
import Derived.Below
import Derived.OpenVars
set_option maxRecDepth 100000
set_option maxHeartbeats 8000000
set_option linter.unusedVariables false
namespace Go.Proofs.YteoojodkkjepeaaGreat.fnExactSettled
open ChangeShapes WideShapes ChangeAt RowKit
open Go.ChangeMaps (open_string shut_string)
theorem own:ownKnob Tryz.prog.godebug=none:=by kernel_rfl
theorem laidOut:laidOutB Tryz.prog=true:=by kernel_rfl
theorem walk (es0:List rr.Ex) (bs0:List rr.Bi) (qs0:List qu.E) (ts0:List su.E) (ea0 ba0 qa0 ta0:Option Addr) (ec0 bc0 qc0 tc0:Nat) (w:World)  (hin0:ca.In w es0 bs0 qs0 ts0 ea0 ba0 qa0 ta0) :
  Calls Tryz.prog 9 #[.agg #[.slice ea0 es0.length ec0,.slice ba0 bs0.length bc0,.slice qa0 qs0.length qc0,.slice ta0 ts0.length tc0]] w fun e w'=>e=.returned (.bool true)/\Below w.heap.size w w':=by
 exact lwSettled.walk es0 bs0 qs0 ts0 ea0 ba0 qa0 ta0 ec0 bc0 qc0 tc0 w hin0
theorem lifted (os:Os) (started:os.Started) (H:Type) (enc:TypeId × Value->H) :
  ReturnsInHanded {} Tryz.checked os 9 .any (Rows.fnExactSettledSpec.pre6 enc Tryz.prog Tryz.f9 Rows.fnExactSettledRow.domain false) (Rows.fnExactSettledSpec.post enc Tryz.prog Tryz.f9 false true false false):=by
 refine returnsInHanded_of_change (C:=Tryz.checked) own started (by kernel_rfl) Tryz.func9
  (ChangeSpec.witness6 (enc:=enc) (C:=Tryz.checked) false ⟨#[],#[.agg #[.slice none 0 0,.slice none 0 0,.slice none 0 0,.slice none 0 0]],[]⟩ 8 (by kernel_rfl) (by kernel_rfl) (by kernel_rfl) (by kernel_rfl)) ?_
 intro W base args ds gs before hval0 hW hcnd _
 have hval:∀ (j:Nat) t v,Tryz.f9.params[j]?=some t->args[j]?=some v->Value.okWide Tryz.prog W .any base t v:=hval0
 have hW':=hW
 obtain ⟨p,q,hA0,hV,hb,hfz,hnd⟩:=hW
 have hA:DataW.TrodAll enc Tryz.prog W 0 (fun _=>true) true Tryz.f9.params.toList args.toList ds p:=hA0
 rw [Tryz.params9] at hA hval
 obtain ⟨v0,vs0,d0,ds0,p0,q0,hargs,rfl,rfl,h0,r0⟩:=trodAll_cons hA
 obtain ⟨rfl,rfl,rfl⟩:=trodAll_nil r0
 obtain rfl:args=#[v0]:=by cases args; simp_all
 obtain ⟨rfl,rfl⟩:=trodVars_none hV
 have k0:=h0
 have lt0:∀ x ∈ p0,x.block < W.heap.size:=by obtain ⟨m,hm⟩:=k0; exact DataW.trod_lt m _ _ _ hm
 obtain ⟨es0,bs0,qs0,ts0,ea0,ba0,qa0,ta0,ec0,bc0,qc0,tc0,rfl,hin0⟩:=ca.open_core (hval 0 29 v0 rfl rfl) h0
 clear hA0 hval0
 refine (walk es0 bs0 qs0 ts0 ea0 ba0 qa0 ta0 ec0 bc0 qc0 tc0 W  hin0).mono fun e W' ⟨he,hg⟩=>?_
 subst he
 exact ⟨_,rfl,_,_,_,[],_,[],hW',(trodAll_cons_mk (shut_bool Tryz.underlying4 _) trodAll_mk0),(trodAll_cons_mk (Below.trod laidOut (by kernel_rfl) (of_decide_eq_true (by kernel_rfl)) k0 hg lt0) trodAll_mk0),rfl,hg.frame _,fun h=>by cases h⟩
theorem over:Rows.fnExactSettledRow.holds Tryz.pinned (OpenSpec.ofChange Rows.fnExactSettledSpec) :=
 OpenClaim.holds_of_wide 9 Tryz.f9 rfl rfl rfl rfl rfl rfl rfl ⟨rfl,rfl,rfl,rfl,rfl⟩ rfl rfl rfl rfl rfl (by kernel_rfl) Tryz.func9 (by kernel_rfl)
  (of_decide_eq_true (by kernel_rfl)) (by unfold Func.isWrapper; first | (rw [if_pos (by decide +kernel)]; kernel_rfl) | (rw [if_neg (by decide +kernel)]; exact ⟨rfl,rfl⟩))
  (fun os started H enc _=>lifted os started H enc)
theorem proved:Rows.FnExactSettledSaid:=over
#print axioms proved
end Go.Proofs.YteoojodkkjepeaaGreat.fnExactSettled
