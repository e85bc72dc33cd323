/- A region that draws its order, whose operations with an effect wait for one another: they are done in one order, the others wherever they come. -/
import Derived.Test.YtnlcmheahihlpaaDrawBytes
import Derived.Test.YtnlcmheahihlpaaQPushSpec
import Derived.Test.YtnlcmheahihlpaaQw08
import Derived.Test.YtnlcmheahihlpaaQw11
import Derived.Test.YtnlcmheahihlpaaDoneKit

/- A queue as it is drawn: its lists lie in rows of their own at or above a block, or nowhere; how great it is. -/
namespace Go.Proofs.Ytnlcmheahihlpaa.dlq
open Go.ChangeShapes Go.WideShapes Go.ChangeAt Go.RowKit Go.Proofs.Ytnlcmheahihlpaa.fl Go.Proofs.Ytnlcmheahihlpaa.dw Go.Proofs.Ytnlcmheahihlpaa.qsp
set_option linter.unusedVariables false

theorem owns_p {W W' : World} {B p k m : Nat} {T : TypeId} {v : Value} {xs : List Value} (h : W.ownsRow B T m v k xs) (hb : On p W W') (hp : p < B) : W'.ownsRow B T m v k xs := by
  refine h.kept hb ?_
  cases hv : v.ownBlock with
  | none => exact .inl rfl
  | some g =>
    right
    have := (h.lt g hv).1
    intro e
    have := Option.some.inj e
    omega
theorem owns_b {W W' : World} {B k m : Nat} {T : TypeId} {v : Value} {xs : List Value} (h : W.ownsRow B T m v k xs) (hb : Below W.heap.size W W') : W'.ownsRow B T m v k xs := by
  refine h.kept (row := none) ⟨hb.os, hb.tape, hb.output, hb.size, fun k hk _ => hb.block k hk⟩ ?_
  cases v.ownBlock with
  | none => exact .inl rfl
  | some g => exact .inr (by simp)
/-- its lists' rows -/
structure Tq (B : Nat) (W : World) (es : List flM.Ms) (ms : List flH.Hd) (ga : Option Addr) (cg : Nat) (ha : Option Addr) (ch : Nat) : Prop where
  oe : OL flM.c 5 41 W B ga cg es
  oh : HL W B ha ch ms
section
variable {B p : Nat} {W W' : World} {es : List flM.Ms} {ms : List flH.Hd} {ga ha : Option Addr} {cg ch : Nat}
theorem hl_map {sb : Option Addr} {cb B' : Nat} {l : List flH.Hd} (h : HL W B sb cb l) (hm : OL flH.c 7 55 W B sb cb l → OL flH.c 7 55 W' B' sb cb l) : HL W' B' sb cb l := by
  rcases h with h | ⟨g, h1, h2⟩
  · exact .inl h
  · exact .inr ⟨g, h1, hm h2⟩
theorem Tq.on (h : Tq B W es ms ga cg ha ch) (hb : On p W W') (hp : p < B) : Tq B W' es ms ga cg ha ch := ⟨owns_p h.oe hb hp, hl_map h.oh fun h => owns_p h hb hp⟩
theorem Tq.below (h : Tq B W es ms ga cg ha ch) (hb : Below W.heap.size W W') : Tq B W' es ms ga cg ha ch := ⟨owns_b h.oe hb, hl_map h.oh fun h => owns_b h hb⟩
theorem Tq.alloc (h : Tq B W es ms ga cg ha ch) (o : Obj) : Tq B (W.alloc o) es ms ga cg ha ch := h.below ((Below.refl _ _).alloc (Nat.le_refl _) _)
theorem Tq.low {B' : Nat} (h : Tq B W es ms ga cg ha ch) (hb : B' ≤ B) : Tq B' W es ms ga cg ha ch := ⟨own_low h.oe hb, hl_map h.oh fun h => own_low h hb⟩
theorem nil_tq (B : Nat) (W : World) : Tq B W [] [] none 0 none 0 := ⟨⟨rfl, .inl ⟨rfl, rfl⟩⟩, .inl ⟨rfl, rfl, .inl rfl⟩⟩
/-- as the contracts want it -/
structure Us (W : World) (es : List flM.Ms) (ms : List flH.Hd) (ga : Option Addr) (cg : Nat) (ha : Option Addr) (ch : Nat) : Prop where
  ny : NZ ga es.length cg
  nh : NZ ha ms.length ch
  hy : Row flM.c 5 W W.heap.size ga es
  hh : Row flH.c 7 W W.heap.size ha ms
  ly : es.length ≤ cg
  lh : ms.length ≤ ch
  ay : es = [] ∨ ∃ g, ga = some ⟨g, 0, none⟩
  ah : (ms.length = 0 ∧ ha = none ∧ ch = 0) ∨ ∃ h, ha = some ⟨h, 0, none⟩
theorem own_cap {U : TypeId} {n k c : Nat} {a : Option Addr} {xs : List Value} (h : W.ownsRow B U n (.slice a k c) k xs) : k ≤ c := by
  obtain ⟨_, ⟨h1, h2⟩ | ⟨g, cap, cur, h1, _, _, hcap, _⟩⟩ := h
  · omega
  · cases h1; exact hcap
theorem own_form {U : TypeId} {n k c : Nat} {a : Option Addr} {xs : List Value} (h : W.ownsRow B U n (.slice a k c) k xs) : (k = 0 ∧ a = none ∧ c = 0) ∨ ∃ g, a = some ⟨g, 0, none⟩ := by
  obtain ⟨_, ⟨h1, h2⟩ | ⟨g, cap, cur, h1, _, _, hcap, _⟩⟩ := h
  · cases h1; exact .inl ⟨rfl, rfl, rfl⟩
  · cases h1; exact .inr ⟨g, rfl⟩
theorem Tq.use (h : Tq B W es ms ga cg ha ch) : Us W es ms ga cg ha ch := by
  have hy := h.oe.row flM.c_len
  have ny : NZ ga es.length cg ∧ (es = [] ∨ ∃ g, ga = some ⟨g, 0, none⟩) := by
    rcases own_form h.oe with ⟨h1, rfl, rfl⟩ | ⟨g, rfl⟩
    · exact ⟨⟨⟨0, 0, none⟩, .inr ⟨rfl, h1, rfl⟩⟩, .inl (List.length_eq_zero_iff.1 h1)⟩
    · exact ⟨⟨_, .inl rfl⟩, .inr ⟨g, rfl⟩⟩
  refine ⟨ny.1, h.oh.nz, hy, h.oh.row, own_cap h.oe, ?_, ny.2, ?_⟩
  · rcases h.oh with ⟨rfl, _, _⟩ | ⟨g, _, h1⟩
    · exact Nat.zero_le _
    · exact own_cap h1
  · rcases h.oh with ⟨rfl, h2, h3 | h3⟩ | ⟨g, h1, _⟩
    · exact .inl ⟨rfl, h3, h2⟩
    · exact .inr h3
    · exact .inr ⟨g, h1⟩
/-- the specification's Pop, wherever both lists lie -/
theorem Us.pop (u : Us W es ms ga cg ha ch) {sn : ByteArray} {nx : Int} (F : Fit sn es ms) (o t : Int) : Calls Try.prog 18 #[.agg #[.string sn, .int .i64 nx, .slice ga es.length cg, .slice ha ms.length ch], .int .i64 o, .int .i64 t] W fun e w' => qom.SA W sn nx (qpp.ansR sn nx es ms o t) (qpp.ansH sn nx es ms o t) (qpp.ansM sn nx es ms o t) (qpp.good sn nx es ms o t) e w' := by
  by_cases hes : es = []
  · exact qom.spec_popE sn nx es ms ga ha cg ch o t W F u.ny u.nh hes u.hy u.hh
  · obtain ⟨g, rfl⟩ : ∃ g, ga = some ⟨g, 0, none⟩ := by
      rcases u.ay with h | h
      · exact absurd h hes
      · exact h
    rcases u.ah with ⟨h1, rfl, rfl⟩ | ⟨h, rfl⟩
    · exact qom.spec_popN sn nx es ms g cg o t W F u.ly h1 u.hy u.hh
    · exact qom.spec_popM sn nx es ms g h cg ch o t W F u.ly u.lh u.hy u.hh
end
/-- how great it is -/
structure Sm (j : Nat) (sn : ByteArray) (es : List flM.Ms) (ms : List flH.Hd) : Prop where
  ns : sn.size ≤ 31
  tt : es.length + ms.length ≤ j
  eo : ∀ e ∈ es, e.x.size ≤ 100 ∧ e.k.size ≤ 100 ∧ e.b.size ≤ 3001
  mo : ∀ e ∈ ms, e.m.x.size ≤ 100 ∧ e.m.k.size ≤ 100 ∧ e.m.b.size ≤ 3001
section
variable {j : Nat} {sn : ByteArray} {nx : Int} {es : List flM.Ms} {ms : List flH.Hd} {o t : Int} {a : Bool}
theorem sm_nil : Sm 0 ⟨#[113]⟩ [] [] := ⟨by decide, Nat.le_refl _, fun e h => (by cases h), fun e h => (by cases h)⟩
theorem Sm.more {k : Nat} (h : Sm j sn es ms) (hk : j ≤ k) : Sm k sn es ms := ⟨h.ns, by have := h.tt; omega, h.eo, h.mo⟩
theorem Sm.fit (h : Sm j sn es ms) (hj : j ≤ 1000) : Fit sn es ms := by
  have h1 := h.tt
  have h2 := h.ns
  exact ⟨by omega, by omega, by omega, fun e he => by have := h.eo e he; omega, fun e he => by have := h.mo e he; omega⟩
theorem Sm.push {x k b : ByteArray} (h : Sm j sn es ms) (hx : x.size ≤ 100 ∧ k.size ≤ 100 ∧ b.size ≤ 3001) : Sm (j + 1) sn (qps.ansE sn nx es ms x k b) ms := by
  have h1 := h.tt
  unfold qps.ansE
  split
  · refine ⟨h.ns, by rw [List.length_append, List.length_singleton]; omega, fun e he => ?_, h.mo⟩
    rcases List.mem_append.1 he with he | he
    · exact h.eo e he
    · rw [List.mem_singleton.1 he]; exact hx
  · exact h.more (by omega)
theorem ansR_le (sn : ByteArray) (nx : Int) (es : List flM.Ms) (ms : List flH.Hd) (o t : Int) : (qpp.ansR sn nx es ms o t).length ≤ es.length := by
  unfold qpp.ansR
  split
  · rw [List.length_tail]; omega
  · exact Nat.le_refl _
theorem ansH_le (sn : ByteArray) (nx : Int) (es : List flM.Ms) (ms : List flH.Hd) (o t : Int) : (qpp.ansH sn nx es ms o t).length ≤ ms.length + 1 := by
  unfold qpp.ansH
  split
  · rw [List.length_append, List.length_cons, List.length_take, List.length_drop]; omega
  · omega
theorem Sm.pop (h : Sm j sn es ms) : Sm (j + 1) sn (qpp.ansR sn nx es ms o t) (qpp.ansH sn nx es ms o t) := by
  have h1 := h.tt
  have h2 := ansR_le sn nx es ms o t
  have h3 := ansH_le sn nx es ms o t
  refine ⟨h.ns, by omega, fun e he => ?_, fun e he => ?_⟩
  · unfold qpp.ansR at he
    split at he
    · exact h.eo e (List.mem_of_mem_tail he)
    · exact h.eo e he
  · unfold qpp.ansH at he
    split at he
    · rename_i hg
      rcases List.mem_append.1 he with he | he
      · exact h.mo e (List.mem_of_mem_take he)
      rcases List.mem_cons.1 he with rfl | he
      · cases es with
        | nil => exact ⟨Nat.zero_le _, Nat.zero_le _, Nat.zero_le _⟩
        | cons r l => exact h.eo r (by simp)
      · exact h.mo e (List.mem_of_mem_drop he)
    · exact h.mo e he
theorem gone_left (ms : List flH.Hd) : (qdp.gone o t a ms).length + (qdp.left o t a ms).length = ms.length := by
  unfold qdp.gone qdp.left
  induction ms with
  | nil => rfl
  | cons m l ih =>
    simp only [List.filter_cons]
    cases qdp.hit o t a m <;> simp at ih ⊢ <;> omega
theorem Sm.drop (h : Sm j sn es ms) : Sm j sn es (qdp.ansH sn nx es ms o t a) := by
  have h1 := h.tt
  unfold qdp.ansH
  split
  · exact ⟨h.ns, by have := qdp.left_le o t a ms; omega, h.eo, fun e he => h.mo e (List.mem_filter.1 he).1⟩
  · exact h
theorem Sm.ret (h : Sm j sn es ms) : Sm j sn (qbk.ansR sn nx es ms o t a) (qdp.ansH sn nx es ms o t a) := by
  have h1 := h.tt
  unfold qbk.ansR qdp.ansH
  split
  · refine ⟨h.ns, by rw [qbk.backs_len]; have := gone_left (o := o) (t := t) (a := a) ms; omega, fun e he => ?_, fun e he => h.mo e (List.mem_filter.1 he).1⟩
    rcases List.mem_append.1 ((qbk.backs_perm es _).mem_iff.1 he) with he | he
    · exact h.eo e he
    · obtain ⟨m, hm, rfl⟩ := List.mem_map.1 he
      exact h.mo m (List.mem_filter.1 hm).1
  · exact h
theorem next_le {x k b : ByteArray} : nx ≤ qps.ansN sn nx es ms x k b ∧ qps.ansN sn nx es ms x k b ≤ nx + 1 := by
  unfold qps.ansN
  split <;> omega
end
end Go.Proofs.Ytnlcmheahihlpaa.dlq

/- An operation of a region that draws its order, which enters a function whose answer is known only behind it. -/
namespace Go.Proofs.Ytnlcmheahihlpaa.stc
set_option linter.unusedVariables false

/-- an operation that enters a function: what comes back is known only behind it -/
theorem step_call {σ : Type} {P : Program} {fin : σ → Act} {C : σ → (Nat → Bool) → World → Prop} {Q : Exit → Act → World → Prop} {i : Nat} {o : Oper} (hsel : ∀ cs b, o.op ≠ .select cs b) (f : FuncId) (args : Array Value)
    (h : ∀ (s : σ) (L : Nat → Bool) (w : World), (∀ e ∈ o.after, Region.binds .any e = true → L e.on = true) → L i = false → C s L w →
      (execOp (fin s).eval o).run P w = .ok (.enter f args) w ∧ Calls P f args w fun e w' => ∃ s' v, e = .returned v ∧ gh.Agree o (fin s) (fin s') ∧ (∀ d, o.dst = some d → (fin s').tmps[d]? = some v) ∧ C s' (dn.more L i) w') : gh.Step P fin C Q i o := by
  intro s L w a ha hd h0 hC K hK
  obtain ⟨hr, hc⟩ := h s L w hd h0 hC
  unfold Oper.wp
  rw [execOp_congr o hsel ha, hr]
  simp only [Oper.upon]
  exact hc.mono fun e w'' ⟨s', v, he, hag, hv, hD⟩ => by subst he; exact hK s' _ _ hag hv hD
end Go.Proofs.Ytnlcmheahihlpaa.stc

/- A region that draws its order, whose operations with an effect wait for one another: they are done in one order, the others wherever they come. -/
namespace Go.Proofs.Ytnlcmheahihlpaa.chn
open Go.Proofs.Ytnlcmheahihlpaa.dn
set_option linter.unusedVariables false

/-- what is done waited for what it must; of the operations js the first k are done, and the world is as S says -/
def Cn {σ : Type} (l : List Oper) (js : List Nat) (S : σ → Nat → World → Prop) (s : σ) (L : Nat → Bool) (w : World) : Prop :=
  (∀ (i : Nat) (o : Oper), l[i]? = some o → L i = true → ∀ e ∈ o.after, Region.binds .any e = true → L e.on = true) ∧
  ∃ k, k ≤ js.length ∧ (∀ (m j : Nat), js[m]? = some j → L j = decide (m < k)) ∧ S s k w
theorem on (L : Nat → Bool) (i : Nat) : more L i i = true := by unfold more; rw [if_pos rfl]
theorem off (L : Nat → Bool) {i j : Nat} (h : j ≠ i) : more L i j = L j := by unfold more; rw [if_neg h]
theorem up {L : Nat → Bool} {i j : Nat} (h : L j = true) : more L i j = true := by
  unfold more
  split
  · rfl
  · exact h
theorem shut {l : List Oper} {L : Nat → Bool} {i : Nat} {o : Oper} (hl : l[i]? = some o) (hd : ∀ e ∈ o.after, Region.binds .any e = true → L e.on = true) (h : ∀ (i : Nat) (o : Oper), l[i]? = some o → L i = true → ∀ e ∈ o.after, Region.binds .any e = true → L e.on = true) :
    ∀ (i' : Nat) (o' : Oper), l[i']? = some o' → more L i i' = true → ∀ e ∈ o'.after, Region.binds .any e = true → more L i e.on = true := fun i' o' hl' hL e he hb => by
  by_cases hi : i' = i
  · subst hi
    rw [hl] at hl'
    cases hl'
    exact up (hd e he hb)
  · rw [off L hi] at hL
    exact up (h i' o' hl' hL e he hb)
section
variable {σ : Type} {P : Program} {act : Act} {ws : σ → List (Nat × Value)} {l : List Oper} {js : List Nat} {S : σ → Nat → World → Prop} {Q : Exit → Act → World → Prop} {i : Nat} {o : Oper}
/-- an operation without an effect, which the m-th of those with one waits for (or none does: m is how many they are) -/
theorem quiet (m : Nat) (hl : l[i]? = some o) (hi : i ∉ js) (hm : m = js.length ∨ ∃ j oj, js[m]? = some j ∧ l[j]? = some oj ∧ ∃ e ∈ oj.after, Region.binds .any e = true ∧ e.on = i) (hsel : ∀ cs b, o.op ≠ .select cs b) (u : σ → Value)
    (hd : ∀ s d, o.dst = some d → (dk.sets act (ws s)).tmps[d]? = some (u s)) (hrun : ∀ s k W, k ≤ m → S s k W → (execOp (dk.sets act (ws s)).eval o).run P W = .ok (.value (u s)) W) : gh.Step P (fun s => dk.sets act (ws s)) (Cn l js S) Q i o := by
  refine gh.step_val hsel fun s L W hdp h0 hC => ⟨s, u s, gh.Agree.refl _ _, hd s, ?_⟩
  obtain ⟨hc, k, hk, hL, hS⟩ := hC
  have hkm : k ≤ m := by
    rcases hm with rfl | ⟨j, oj, hj, hoj, e, he, hb, hon⟩
    · exact hk
    · rcases Nat.lt_or_ge m k with h | h
      · have h1 : L j = true := by rw [hL m j hj]; simpa using h
        have := hc j oj hoj h1 e he hb
        rw [hon, h0] at this
        cases this
      · exact h
  rw [hrun s k W hkm hS]
  refine ⟨rfl, shut hl hdp hc, k, hk, fun m' j hj => ?_, hS⟩
  rw [off L (fun e => hi (by rw [← e]; exact List.mem_of_getElem? hj))]
  exact hL m' j hj
theorem at_m {L : Nat → Bool} {k m : Nat} (hk : ∀ (m j : Nat), js[m]? = some j → L j = decide (m < k)) (hm : js[m]? = some i) (h0 : L i = false) (hdep : m = 0 ∨ ∃ e ∈ o.after, Region.binds .any e = true ∧ js[m - 1]? = some e.on) (hd : ∀ e ∈ o.after, Region.binds .any e = true → L e.on = true) : k = m := by
  have h1 := hk m i hm
  rw [h0] at h1
  have h2 : ¬ m < k := fun h => by simp [h] at h1
  rcases hdep with rfl | ⟨e, he, hb, hj⟩
  · omega
  · have h3 := hk (m - 1) e.on hj
    rw [hd e he hb] at h3
    have h4 : m - 1 < k := by simpa using h3.symm
    omega
theorem next_m {L : Nat → Bool} {m : Nat} (hnd : js.Nodup) (hm : js[m]? = some i) (hk : ∀ (m' j : Nat), js[m']? = some j → L j = decide (m' < m)) : ∀ (m' j : Nat), js[m']? = some j → more L i j = decide (m' < m + 1) := fun m' j hj => by
  by_cases hji : j = i
  · subst hji
    have h1 := (List.getElem?_eq_some_iff.1 hj)
    have h2 := (List.getElem?_eq_some_iff.1 hm)
    obtain ⟨a1, b1⟩ := h1
    obtain ⟨a2, b2⟩ := h2
    have : m' = m := by
      rcases Nat.lt_trichotomy m' m with h | h | h
      · exact absurd (b1.trans b2.symm) (List.pairwise_iff_getElem.1 hnd m' m a1 a2 h)
      · exact h
      · exact absurd (b2.trans b1.symm) (List.pairwise_iff_getElem.1 hnd m m' a2 a1 h)
    subst this
    rw [on]
    simp
  · rw [off L hji, hk m' j hj]
    have : m' ≠ m := fun e => by subst e; rw [hm] at hj; cases hj; exact hji rfl
    by_cases h : m' < m
    · simp [h, Nat.lt_succ_of_lt h]
    · simp [h, show ¬ m' < m + 1 by omega]
/-- the m-th of those with an effect -/
theorem eff (m : Nat) (hl : l[i]? = some o) (hnd : js.Nodup) (hm : js[m]? = some i) (hdep : m = 0 ∨ ∃ e ∈ o.after, Region.binds .any e = true ∧ js[m - 1]? = some e.on) (hsel : ∀ cs b, o.op ≠ .select cs b)
    (h : ∀ s W, S s m W → ∃ s' v, gh.Agree o (dk.sets act (ws s)) (dk.sets act (ws s')) ∧ (∀ d, o.dst = some d → (dk.sets act (ws s')).tmps[d]? = some v) ∧ left P v (S s' (m + 1)) ((execOp (dk.sets act (ws s)).eval o).run P W)) : gh.Step P (fun s => dk.sets act (ws s)) (Cn l js S) Q i o := by
  refine gh.step_val hsel fun s L W hdp h0 hC => ?_
  obtain ⟨hc, k, hk, hL, hS⟩ := hC
  obtain rfl := at_m hL hm h0 hdep hdp
  obtain ⟨s', v, h1, h2, h3⟩ := h s W hS
  refine ⟨s', v, h1, h2, ?_⟩
  have hlt := (List.getElem?_eq_some_iff.1 hm).1
  have hnew : ∀ W', S s' (k + 1) W' → Cn l js S s' (more L i) W' := fun W' hS' => ⟨shut hl hdp hc, k + 1, hlt, next_m hnd hm hL, hS'⟩
  generalize (execOp (dk.sets act (ws s)).eval o).run P W = r at *
  cases r with
  | ok n w' =>
    cases n <;> simp only [left] at h3 ⊢
    case value u => exact ⟨h3.1, hnew _ h3.2⟩
    case skip => exact ⟨h3.1, hnew _ h3.2⟩
    case enter f args => exact h3.mono fun e w'' ⟨he, hD⟩ => ⟨he, hnew _ hD⟩
  | halt x w' => simp only [left] at h3
/-- one of them that enters a function whose answer is known only behind it -/
theorem call (m : Nat) (hl : l[i]? = some o) (hnd : js.Nodup) (hm : js[m]? = some i) (hdep : m = 0 ∨ ∃ e ∈ o.after, Region.binds .any e = true ∧ js[m - 1]? = some e.on) (hsel : ∀ cs b, o.op ≠ .select cs b) (f : FuncId) (args : Array Value)
    (h : ∀ s W, S s m W → (execOp (dk.sets act (ws s)).eval o).run P W = .ok (.enter f args) W ∧ Calls P f args W fun e w' => ∃ s' v, e = .returned v ∧ gh.Agree o (dk.sets act (ws s)) (dk.sets act (ws s')) ∧ (∀ d, o.dst = some d → (dk.sets act (ws s')).tmps[d]? = some v) ∧ S s' (m + 1) w') : gh.Step P (fun s => dk.sets act (ws s)) (Cn l js S) Q i o := by
  refine stc.step_call hsel f args fun s L W hdp h0 hC => ?_
  obtain ⟨hc, k, hk, hL, hS⟩ := hC
  obtain rfl := at_m hL hm h0 hdep hdp
  obtain ⟨h1, h2⟩ := h s W hS
  have hlt := (List.getElem?_eq_some_iff.1 hm).1
  exact ⟨h1, h2.mono fun e w' ⟨s', v, he, ha, hv, hS'⟩ => ⟨s', v, he, ha, hv, shut hl hdp hc, k + 1, hlt, next_m hnd hm hL, hS'⟩⟩
theorem val {v : Value} {D : World → Prop} {r : Result Next} {w' : World} (h : r = .ok (.value v) w') (hD : D w') : left P v D r := by rw [h]; exact ⟨rfl, hD⟩
theorem skip {D : World → Prop} {r : Result Next} {w' : World} (h : r = .ok .skip w') (hD : D w') : left P undef D r := by rw [h]; exact ⟨rfl, hD⟩
/-- one of them that stores -/
theorem sto (m : Nat) (hl : l[i]? = some o) (hnd : js.Nodup) (hm : js[m]? = some i) (hdep : m = 0 ∨ ∃ e ∈ o.after, Region.binds .any e = true ∧ js[m - 1]? = some e.on) (hsel : ∀ cs b, o.op ≠ .select cs b) (hdst : o.dst = none)
    (h : ∀ s W, S s m W → ∃ w', (execOp (dk.sets act (ws s)).eval o).run P W = .ok .skip w' ∧ S s (m + 1) w') : gh.Step P (fun s => dk.sets act (ws s)) (Cn l js S) Q i o := by
  refine eff m hl hnd hm hdep hsel fun s W hS => ?_
  obtain ⟨w', h1, h2⟩ := h s W hS
  exact ⟨s, undef, gh.Agree.refl _ _, fun d hd => (by rw [hdst] at hd; cases hd), skip h1 h2⟩
/-- the whole region -/
theorem region {id : Nat} {w : World} (ks : List Nat) (s0 : σ) (hm : P.follows .mixedOrders = true) (hok : okB l.toArray = true) (hw : ∀ g, (ws g).map (·.1) = ks) (hks : (ks.all fun t => keepB l t) = true) (hjs : ∀ j ∈ js, j < l.length) (hS : S s0 0 w.drew)
    (hstep : gh.Each P (fun g => dk.sets act (ws g)) (Cn l js S) Q 0 l) (hend : ∀ s w', S s js.length w' → Q .normal (dk.sets act (ws s)) w') : (Code.region id l.toArray true).wp P Q act w := by
  refine dk.region_gsets ws ks (Cn l js S) s0 hm hok hw hks ⟨fun i o _ h => (by cases h), 0, Nat.zero_le _, fun m j _ => by simp, hS⟩ hstep fun s L w' hL hC => ?_
  obtain ⟨_, k, hk, hLk, hS'⟩ := hC
  have : k = js.length := by
    rcases Nat.lt_or_ge k js.length with h | h
    · have h1 := hLk k js[k] (List.getElem?_eq_getElem h)
      rw [hL _ (hjs _ (List.getElem_mem h))] at h1
      simp at h1
    · omega
  subst this
  exact hend s w' hS'
end
end Go.Proofs.Ytnlcmheahihlpaa.chn
