/- The program's take: the held ones that are meant, and the rest. -/
import Derived.Test.YtnlcmheahihlpaaQw13
import Derived.Test.YtnlcmheahihlpaaQw15
import Derived.Test.YtnlcmheahihlpaaQTakeSpec

/- As ChainDraw, with one operation more that makes memory wherever it comes: it waits for none of those with an effect, and one of them waits for it. -/
namespace Go.Proofs.Ytnlcmheahihlpaa.chf
open Go.Proofs.Ytnlcmheahihlpaa.dn
open Go.Proofs.Ytnlcmheahihlpaa.chn (on off up shut at_m next_m)
open Go.Proofs.Ytnlcmheahihlpaa.chd (But but_lookup)
set_option linter.unusedVariables false

/-- of the operations js the first k are done, j0 is done or not, and the world is as S says -/
def Cf {σ : Type} (l : List Oper) (js : List Nat) (j0 : Nat) (S : σ → Nat → Bool → World → Prop) (s : σ) (L : Nat → Bool) (w : World) : Prop :=
  (∀ (i : Nat) (o : Oper), l[i]? = some o → L i = true → ∀ e ∈ o.after, Region.binds .any e = true → L e.on = true) ∧
  ∃ k, k ≤ js.length ∧ (∀ (m j : Nat), js[m]? = some j → L j = decide (m < k)) ∧ S s k (L j0) w
section
variable {σ : Type} {P : Program} {act : Act} {ws : σ → List (Nat × Value)} {l : List Oper} {js : List Nat} {j0 : Nat} {S : σ → Nat → Bool → World → Prop} {Q : Exit → Act → World → Prop} {i : Nat} {o : Oper}
theorem k_le {L : Nat → Bool} {k m : Nat} (hc : ∀ (i : Nat) (o : Oper), l[i]? = some o → L i = true → ∀ e ∈ o.after, Region.binds .any e = true → L e.on = true) (hk : k ≤ js.length) (hL : ∀ (m j : Nat), js[m]? = some j → L j = decide (m < k)) (h0 : L i = false)
    (hm : m = js.length ∨ ∃ j oj, js[m]? = some j ∧ l[j]? = some oj ∧ ∃ e ∈ oj.after, Region.binds .any e = true ∧ e.on = i) : k ≤ m := by
  rcases hm with rfl | ⟨j, oj, hj, hoj, e, he, hb, hon⟩
  · exact hk
  · rcases Nat.lt_or_ge m k with h | h
    · have h1 : L j = true := by rw [hL m j hj]; simpa using h
      have := hc j oj hoj h1 e he hb
      rw [hon, h0] at this
      cases this
    · exact h
theorem quiet (m : Nat) (hl : l[i]? = some o) (hi : i ∉ js) (hi0 : i ≠ j0) (hm : m = js.length ∨ ∃ j oj, js[m]? = some j ∧ l[j]? = some oj ∧ ∃ e ∈ oj.after, Region.binds .any e = true ∧ e.on = i) (hsel : ∀ cs b, o.op ≠ .select cs b) (u : σ → Value)
    (hd : ∀ s d, o.dst = some d → (dk.sets act (ws s)).tmps[d]? = some (u s)) (hrun : ∀ s k b W, k ≤ m → S s k b W → (execOp (dk.sets act (ws s)).eval o).run P W = .ok (.value (u s)) W) : gt.Step P l.toArray (fun s => dk.sets act (ws s)) (Cf l js j0 S) Q i o := by
  refine gt.step_val hsel fun s L W hdp h0 hC => ⟨s, u s, gt.Turn.refl _ _ _, hd s, ?_⟩
  obtain ⟨hc, k, hk, hL, hS⟩ := hC
  rw [hrun s k _ W (k_le hc hk hL h0 hm) hS]
  refine ⟨rfl, shut hl hdp hc, k, hk, fun m' j hj => ?_, by rw [off L (Ne.symm hi0)]; exact hS⟩
  rw [off L (fun e => hi (by rw [← e]; exact List.mem_of_getElem? hj))]
  exact hL m' j hj
/-- the operation that makes memory wherever it comes -/
theorem free (m : Nat) (hl : l[i]? = some o) (hi : i ∉ js) (hi0 : i = j0) (hm : m = js.length ∨ ∃ j oj, js[m]? = some j ∧ l[j]? = some oj ∧ ∃ e ∈ oj.after, Region.binds .any e = true ∧ e.on = i) (zs qz : List Nat) (hz : cht.waitB l i [] zs = true) (hq : cht.slotB l zs qz = true) (hsel : ∀ cs b, o.op ≠ .select cs b)
    (h : ∀ s k W, k ≤ m → S s k false W → ∃ s' v w', But qz (ws s) (ws s') ∧ (∀ d, o.dst = some d → (dk.sets act (ws s')).tmps[d]? = some v) ∧ (execOp (dk.sets act (ws s)).eval o).run P W = .ok (.value v) w' ∧ S s' k true w') : gt.Step P l.toArray (fun s => dk.sets act (ws s)) (Cf l js j0 S) Q i o := by
  subst hi0
  refine gt.step_val hsel fun s L W hdp h0 hC => ?_
  obtain ⟨hc, k, hk, hL, hS⟩ := hC
  rw [h0] at hS
  obtain ⟨s', v, w', h1, h2, h3, h4⟩ := h s k W (k_le hc hk hL h0 hm) hS
  refine ⟨s', v, cht.turn_of (cht.wait_not hc h0 zs [] (fun y hy => by cases hy) hz) hq (but_lookup _ _ h1), h2, ?_⟩
  rw [h3]
  refine ⟨rfl, shut hl hdp hc, k, hk, fun m' j hj => ?_, by rw [on]; exact h4⟩
  rw [off L (fun e => hi (by rw [← e]; exact List.mem_of_getElem? hj))]
  exact hL m' j hj
theorem call (m : Nat) (zs qz : List Nat) (hz : cht.waitB l i [] zs = true) (hq : cht.slotB l zs qz = true) (hl : l[i]? = some o) (hnd : js.Nodup) (hi0 : i ≠ j0) (hm : js[m]? = some i) (hdep : m = 0 ∨ ∃ e ∈ o.after, Region.binds .any e = true ∧ js[m - 1]? = some e.on) (hsel : ∀ cs b, o.op ≠ .select cs b) (f : FuncId) (args : σ → Array Value)
    (h : ∀ s b W, ((∃ e ∈ o.after, Region.binds .any e = true ∧ e.on = j0) → b = true) → S s m b W → (execOp (dk.sets act (ws s)).eval o).run P W = .ok (.enter f (args s)) W ∧ Calls P f (args s) W fun e w' => ∃ s' v, e = .returned v ∧ But qz (ws s) (ws s') ∧ (∀ d, o.dst = some d → (dk.sets act (ws s')).tmps[d]? = some v) ∧ S s' (m + 1) b w') : gt.Step P l.toArray (fun s => dk.sets act (ws s)) (Cf l js j0 S) Q i o := by
  intro s L w a ha hdp h0 hC K hK
  obtain ⟨hc, k, hk, hL, hS⟩ := hC
  obtain rfl := at_m hL hm h0 hdep hdp
  obtain ⟨h1, h2⟩ := h s (L j0) w (fun ⟨e, he, hb, hon⟩ => by rw [← hon]; exact hdp e he hb) hS
  have hlt := (List.getElem?_eq_some_iff.1 hm).1
  unfold Oper.wp
  rw [execOp_congr o hsel ha, h1]
  simp only [Oper.upon]
  exact h2.mono fun e w' ⟨s', v, he, ht, hv, hS'⟩ => by
    subst he
    exact hK s' _ _ (cht.turn_of (cht.wait_not hc h0 zs [] (fun y hy => by cases hy) hz) hq (but_lookup _ _ ht)) hv ⟨shut hl hdp hc, k + 1, hlt, next_m hnd hm hL, by rw [off L (Ne.symm hi0)]; exact hS'⟩
theorem eff (m : Nat) (zs qz : List Nat) (hz : cht.waitB l i [] zs = true) (hq : cht.slotB l zs qz = true) (hl : l[i]? = some o) (hnd : js.Nodup) (hi0 : i ≠ j0) (hm : js[m]? = some i) (hdep : m = 0 ∨ ∃ e ∈ o.after, Region.binds .any e = true ∧ js[m - 1]? = some e.on) (hsel : ∀ cs b, o.op ≠ .select cs b)
    (h : ∀ s b W, S s m b W → ∃ s' v w', But qz (ws s) (ws s') ∧ (∀ d, o.dst = some d → (dk.sets act (ws s')).tmps[d]? = some v) ∧ (execOp (dk.sets act (ws s)).eval o).run P W = .ok (.value v) w' ∧ S s' (m + 1) b w') : gt.Step P l.toArray (fun s => dk.sets act (ws s)) (Cf l js j0 S) Q i o := by
  refine gt.step_val hsel fun s L W hdp h0 hC => ?_
  obtain ⟨hc, k, hk, hL, hS⟩ := hC
  obtain rfl := at_m hL hm h0 hdep hdp
  obtain ⟨s', v, w', h1, h2, h3, h4⟩ := h s _ W hS
  have hlt := (List.getElem?_eq_some_iff.1 hm).1
  refine ⟨s', v, cht.turn_of (cht.wait_not hc h0 zs [] (fun y hy => by cases hy) hz) hq (but_lookup _ _ h1), h2, ?_⟩
  rw [h3]
  exact ⟨rfl, shut hl hdp hc, k + 1, hlt, next_m hnd hm hL, by rw [off L (Ne.symm hi0)]; exact h4⟩
theorem sto (m : Nat) (hl : l[i]? = some o) (hnd : js.Nodup) (hi0 : i ≠ j0) (hm : js[m]? = some i) (hdep : m = 0 ∨ ∃ e ∈ o.after, Region.binds .any e = true ∧ js[m - 1]? = some e.on) (hsel : ∀ cs b, o.op ≠ .select cs b) (hdst : o.dst = none)
    (h : ∀ s b W, S s m b W → ∃ w', (execOp (dk.sets act (ws s)).eval o).run P W = .ok .skip w' ∧ S s (m + 1) b w') : gt.Step P l.toArray (fun s => dk.sets act (ws s)) (Cf l js j0 S) Q i o := by
  refine gt.step_val hsel fun s L W hdp h0 hC => ?_
  obtain ⟨hc, k, hk, hL, hS⟩ := hC
  obtain rfl := at_m hL hm h0 hdep hdp
  obtain ⟨w', h1, h2⟩ := h s _ W hS
  have hlt := (List.getElem?_eq_some_iff.1 hm).1
  refine ⟨s, undef, gt.Turn.refl _ _ _, fun d hd => (by rw [hdst] at hd; cases hd), ?_⟩
  rw [h1]
  exact ⟨rfl, shut hl hdp hc, k + 1, hlt, next_m hnd hm hL, by rw [off L (Ne.symm hi0)]; exact h2⟩
theorem region {id : Nat} {w : World} (ks : List Nat) (s0 : σ) (hm : P.follows .mixedOrders = true) (hok : okB l.toArray = true) (hw : ∀ g, (ws g).map (·.1) = ks) (hks : (ks.all fun t => keepB l t) = true) (hjs : ∀ j ∈ js, j < l.length) (hj0 : j0 < l.length) (hS : S s0 0 false w.drew)
    (hstep : gt.Each P l.toArray (fun g => dk.sets act (ws g)) (Cf l js j0 S) Q 0 l) (hend : ∀ s w', S s js.length true w' → Q .normal (dk.sets act (ws s)) w') : (Code.region id l.toArray true).wp P Q act w := by
  refine gt.region_ghost (fun g => dk.sets act (ws g)) (Cf l js j0 S) s0 hm hok (dk.sets_defers act _).symm (fun s => (dk.sets_size act (ws s)).symm) _ rfl (fun g => dk.kept_of _ (dk.keeps (ws g) (hw g) hks)) ⟨fun i o _ h => (by cases h), 0, Nat.zero_le _, fun m j _ => by simp, hS⟩ hstep fun s L w' hL hC => ?_
  obtain ⟨_, k, hk, hLk, hS'⟩ := hC
  rw [hL _ hj0] at hS'
  have : k = js.length := by
    rcases Nat.lt_or_ge k js.length with h | h
    · have h1 := hLk k js[k] (List.getElem?_eq_getElem h)
      rw [hL _ (hjs _ (List.getElem_mem h))] at h1
      simp at h1
    · omega
  subst this
  exact hend s w' hS'
end
end Go.Proofs.Ytnlcmheahihlpaa.chf

/- The specification's draws of FnQueue: a queue and what is asked of it. -/
namespace Go.Proofs.Ytnlcmheahihlpaa.dqs
open Go.ChangeShapes Go.WideShapes Go.ChangeAt Go.RowKit Go.Proofs.Ytnlcmheahihlpaa.fl Go.Proofs.Ytnlcmheahihlpaa.dw Go.Proofs.Ytnlcmheahihlpaa.qsp Go.Proofs.Ytnlcmheahihlpaa.dlq Go.Proofs.Ytnlcmheahihlpaa.dtq
set_option linter.unusedVariables false

def keys3 : List ByteArray := [⟨#[]⟩, ⟨#[120]⟩, ⟨#[65]⟩]
theorem keys3_in : ∀ z ∈ keys3, z.size ≤ 1 := by decide
def intsO : List Int := [0, 1, 2, -1, 1000, 1001]
def intsT : List Int := [50, 60, 1, 3, 0, 1000000000, 1000000001]
structure G3 where
  x : Nat
  a : Nat
  y : Nat
  t : ByteArray
  n : Int
  u : Int
  b : Bool
/-- a row of numbers that stays -/
theorem at_on {W W' : World} {p g m : Nat} {zs : List Int} (h : p ≠ g ∧ ∀ i, i < m → ∃ z ∈ zs, W.cell? ⟨g, i, none⟩ = some (.int .i64 z)) (hb : On p W W') : p ≠ g ∧ ∀ i, i < m → ∃ z ∈ zs, W'.cell? ⟨g, i, none⟩ = some (.int .i64 z) :=
  ⟨h.1, fun i hi => by obtain ⟨z, hz, hc⟩ := h.2 i hi; exact ⟨z, hz, hb.cell hc (by have := h.1; simpa using Ne.symm this)⟩⟩
/-- what stands on the way of a draw behind the queue's -/
structure Dz (a : Option Addr) (len cap : Nat) (w : World) (sn : ByteArray) (nx : Int) (es : List flM.Ms) (ms : List flH.Hd) (ga : Option Addr) (cg : Nat) (ha : Option Addr) (ch : Nat) (W : World) : Prop where
  rb : W.heap[w.heap.size]? = some (.cells #[.string ⟨#[]⟩, .int .i64 0, .slice none 0 0, .slice none 0 0] 27 (0, 0))
  cur : Cur W (w.heap.size + 1) a len cap
  bel : Below w.heap.size w W
  dr : Tq (w.heap.size + 2) W es ms ga cg ha ch
section
variable {a : Option Addr} {len cap : Nat} {w W W' : World} {sn : ByteArray} {nx : Int} {es : List flM.Ms} {ms : List flH.Hd} {ga ha : Option Addr} {cg ch : Nat}
theorem Dz.draw (h : Dz a len cap w sn nx es ms ga cg ha ch W) (hc : Cur W' (w.heap.size + 1) a len cap) (hb : On (w.heap.size + 1) W W') : Dz a len cap w sn nx es ms ga cg ha ch W' :=
  ⟨st_block h.rb hb (by omega), hc, h.bel.trans (hb.below (by omega) (by have := (Array.getElem?_eq_some_iff.1 h.rb).1; omega)), h.dr.on hb (by omega)⟩
theorem Dz.step (h : Dz a len cap w sn nx es ms ga cg ha ch W) (hb : Below W.heap.size W W') : Dz a len cap w sn nx es ms ga cg ha ch W' :=
  ⟨bstay h.rb hb (Array.getElem?_eq_some_iff.1 h.rb).1, h.cur.below hb, h.bel.trans (hb.mono h.bel.size), h.dr.below hb⟩
theorem Dz.done (h : Dz a len cap w sn nx es ms ga cg ha ch W) (x0 x1 x2 x3 : Value) : Tq w.heap.size (res4 W w.heap.size x0 x1 x2 x3) es ms ga cg ha ch ∧ Below w.heap.size w (res4 W w.heap.size x0 x1 x2 x3) :=
  ⟨(tq_res4 h.dr h.rb ..).low (by omega), ((((h.bel.setCell (Nat.le_refl _) _).setCell (Nat.le_refl _) _).setCell (Nat.le_refl _) _).setCell (Nat.le_refl _) _)⟩
theorem code_at (hc : dw.Code w w.heap.size a len) : dw.Code (w.alloc (.cells #[.string ⟨#[]⟩, .int .i64 0, .slice none 0 0, .slice none 0 0] 27)) (w.alloc (.cells #[.string ⟨#[]⟩, .int .i64 0, .slice none 0 0, .slice none 0 0] 27)).heap.size a len := (hc.below ((Below.refl _ _).alloc (Nat.le_refl _) _) (Nat.le_refl _)).mono (by simp)
end
set_option maxRecDepth 100000 in
set_option maxHeartbeats 2000000 in
theorem draw_asked (a : Option Addr) (len cap : Nat) (w : World) (hlen : len ≤ 1048576) (hc : dw.Code w w.heap.size a len) :
    Calls Try.prog 20 #[.slice a len cap] w fun e w' => (∃ (sn : ByteArray) (nx : Int) (es : List flM.Ms) (ms : List flH.Hd) (ga : Option Addr) (cg : Nat) (ha : Option Addr) (ch : Nat) (o t : Nat) (al : Bool), e = .returned (.tuple #[.agg #[.string sn, .int .i64 nx, .slice ga es.length cg, .slice ha ms.length ch], .int .i64 o, .int .i64 t, .bool al]) ∧ Sm 520 sn es ms ∧ Tq w.heap.size w' es ms ga cg ha ch) ∧ Below w.heap.size w w' ∧ w.heap.size < w'.heap.size := by
  have h1 := draw_new a len cap _ hlen (code_at hc)
  have HR0 : Hid ((w.alloc (.cells #[.string ⟨#[]⟩, .int .i64 0, .slice none 0 0, .slice none 0 0] 27)).heap[w.heap.size]? = some (.cells #[.string ⟨#[]⟩, .int .i64 0, .slice none 0 0, .slice none 0 0] 27 (0, 0))) := bnew w _ _
  have HB0 : Hid (Below w.heap.size w (w.alloc (.cells #[.string ⟨#[]⟩, .int .i64 0, .slice none 0 0, .slice none 0 0] 27))) := (Below.refl _ _).alloc (Nat.le_refl _) _
  clear hc
  go_enter Try.func20, Try.ntmps20
  go_wp2_with (go_at_call 43; fail)
  refine h1.mono ?_
  rintro e w1 ⟨rfl, hc1, hb1⟩
  rw [World.size_alloc] at hc1 hb1
  have hR1 := bstay HR0.out hb1 (by omega)
  have hB1 := HB0.out.trans (hb1.mono (by omega))
  have h2 := draw_queue (w.heap.size + 1) a len cap w1 hc1
  have hlt1 := hc1.lt
  have HR1 : Hid (w1.heap[w.heap.size]? = some (.cells #[.string ⟨#[]⟩, .int .i64 0, .slice none 0 0, .slice none 0 0] 27 (0, 0))) := hR1
  have HB1 : Hid (Below w.heap.size w w1) := hB1
  clear h1 hc1 hb1 hR1 hB1 HR0 HB0
  go_wp2_with (go_at_call 44; fail)
  refine h2.mono ?_
  rintro e w2 ⟨⟨sn, nx, es, ms, ga, cg, ha, ch, rfl, hsm, hdr⟩, hc2, hb2⟩
  have HD2 : Hid (Dz a len cap w sn nx es ms ga cg ha ch w2) := ⟨st_block HR1.out hb2 (by omega), hc2, HB1.out.trans (hb2.below (by omega) (by omega)), hdr.low (by omega)⟩
  have HSM : Hid (Sm 520 sn es ms) := hsm
  have hsz2 := hb2.size
  clear h2 hsm hdr hc2 hb2 HR1 HB1
  have HN2 : Hid ((w2.alloc (.cells #[.string sn, .int .i64 nx, .slice ga es.length cg, .slice ha ms.length ch] 27)).heap[w2.heap.size]? = some (.cells #[.string sn, .int .i64 nx, .slice ga es.length cg, .slice ha ms.length ch] 27 (0, 0))) := bnew w2 _ _
  have HD3 : Hid (Dz a len cap w sn nx es ms ga cg ha ch (w2.alloc (.cells #[.string sn, .int .i64 nx, .slice ga es.length cg, .slice ha ms.length ch] 27))) := HD2.out.step ((Below.refl _ _).alloc (Nat.le_refl _) _)
  have hne2 : w2.heap.size ≠ w.heap.size + 1 := by omega
  go_wp2
  refine cht.region (σ := G3) (ws := (fun s : G3 => [(12, .agg #[.string sn, .int .i64 nx, .slice ga es.length cg, .slice ha ms.length ch]), (13, .pointer (some ⟨w.heap.size + 1, 0, none⟩)), (14, .int .i64 s.x), (15, .pointer (some ⟨w.heap.size + 1, 0, none⟩)), (16, .int .i64 s.a), (17, .pointer (some ⟨w.heap.size + 1, 0, none⟩)), (18, .bool s.b), (3, .int .i64 s.x), (4, .int .i64 s.a), (5, .bool s.b)])) (js := [2, 4, 6, 7]) (S := (fun g k W => (k ≤ 3 → Dz a len cap w sn nx es ms ga cg ha ch W ∧ W.heap[w2.heap.size]? = some (.cells #[.string sn, .int .i64 nx, .slice ga es.length cg, .slice ha ms.length ch] 27 (0, 0))) ∧ (True) ∧ (k = 4 → Tq w.heap.size W es ms ga cg ha ch ∧ Below w.heap.size w W ∧ W.heap[w.heap.size]? = some (.cells #[.string sn, .int .i64 nx, .slice ga es.length cg, .slice ha ms.length ch] 27 (0, 0))))) [12, 13, 14, 15, 16, 17, 18, 3, 4, 5] ⟨0, 0, 0, ⟨#[]⟩, 0, 0, false⟩ (by kernel_rfl) (by kernel_rfl) (fun _ => rfl) (by kernel_rfl) (by decide) ⟨fun _ => ⟨HD3.out.step (Below.refl _ _).drew, bstay HN2.out (Below.refl _ _).drew (by have := (Array.getElem?_eq_some_iff.1 HN2.out).1; omega)⟩, trivial, fun h => (by omega)⟩ ?each ?fin
  case each =>
    refine ⟨cht.quiet 3 rfl (by decide) (.inr ⟨7, _, rfl, rfl, ⟨0, .data⟩, by simp, rfl, rfl⟩) (by simp) (fun s => .agg #[.string sn, .int .i64 nx, .slice ga es.length cg, .slice ha ms.length ch]) (by rintro s _ ⟨⟩; exact dk.sets_on _ (by simp) _ rfl) (fun s k' W hk' hS => by obtain ⟨hZ, hN⟩ := hS.1 hk'; have c0 : W.cell? ⟨w2.heap.size, 0, none⟩ = some (.string sn) := bcell hN rfl; have c1 : W.cell? ⟨w2.heap.size, 1, none⟩ = some (.int .i64 nx) := bcell hN rfl; have c2 : W.cell? ⟨w2.heap.size, 2, none⟩ = some (.slice ga es.length cg) := bcell hN rfl; have c3 : W.cell? ⟨w2.heap.size, 3, none⟩ = some (.slice ha ms.length ch) := bcell hN rfl; simp [execOp, go_sem, Act.eval, dk.sets_get, List.lookup, c0, c1, c2, c3]), ?_⟩
    refine ⟨cht.quiet 4 rfl (by decide) (.inl rfl) (by simp) (fun s => .pointer (some ⟨w.heap.size + 1, 0, none⟩)) (by rintro s _ ⟨⟩; exact dk.sets_on _ (by simp) _ rfl) (fun s k' W hk' hS => by simp [execOp, go_sem, Act.eval, dk.sets_get, List.lookup]), ?_⟩
    refine ⟨chd.call 0 [2, 4, 6, 7, 8, 9, 10] [14, 3] (by kernel_rfl) (by kernel_rfl) rfl (by decide) rfl (.inl rfl) (by simp) 49 (fun s => #[.pointer (some ⟨w.heap.size + 1, 0, none⟩), .int .i64 3]) (fun s W hS => by exact ⟨by simp [go_sem, Act.eval, dk.sets_get, List.lookup], (draw_below (w.heap.size + 1) a len cap 3 W (by omega) (hS.1 (by omega)).1.cur).mono fun e w9 hh => by obtain ⟨⟨z9, hz9, rfl⟩, k1, k2⟩ := hh; exact ⟨{ s with x := z9 }, _, rfl, (by simp [chd.But]), (by rintro _ ⟨⟩; exact dk.sets_on _ (by simp) _ rfl), fun h => ⟨(hS.1 (by omega)).1.draw k1 k2, st_block (hS.1 (by omega)).2 k2 (by omega)⟩, trivial, fun h => (by omega)⟩⟩), ?_⟩
    refine ⟨cht.quiet 4 rfl (by decide) (.inl rfl) (by simp) (fun s => .pointer (some ⟨w.heap.size + 1, 0, none⟩)) (by rintro s _ ⟨⟩; exact dk.sets_on _ (by simp) _ rfl) (fun s k' W hk' hS => by simp [execOp, go_sem, Act.eval, dk.sets_get, List.lookup]), ?_⟩
    refine ⟨chd.call 1 [4, 6, 7, 8, 9, 10] [16, 4] (by kernel_rfl) (by kernel_rfl) rfl (by decide) rfl (.inr ⟨⟨2, .chain⟩, by simp, rfl, rfl⟩) (by simp) 49 (fun s => #[.pointer (some ⟨w.heap.size + 1, 0, none⟩), .int .i64 9]) (fun s W hS => by exact ⟨by simp [go_sem, Act.eval, dk.sets_get, List.lookup], (draw_below (w.heap.size + 1) a len cap 9 W (by omega) (hS.1 (by omega)).1.cur).mono fun e w9 hh => by obtain ⟨⟨z9, hz9, rfl⟩, k1, k2⟩ := hh; exact ⟨{ s with a := z9 }, _, rfl, (by simp [chd.But]), (by rintro _ ⟨⟩; exact dk.sets_on _ (by simp) _ rfl), fun h => ⟨(hS.1 (by omega)).1.draw k1 k2, st_block (hS.1 (by omega)).2 k2 (by omega)⟩, trivial, fun h => (by omega)⟩⟩), ?_⟩
    refine ⟨cht.quiet 4 rfl (by decide) (.inl rfl) (by simp) (fun s => .pointer (some ⟨w.heap.size + 1, 0, none⟩)) (by rintro s _ ⟨⟩; exact dk.sets_on _ (by simp) _ rfl) (fun s k' W hk' hS => by simp [execOp, go_sem, Act.eval, dk.sets_get, List.lookup]), ?_⟩
    refine ⟨chd.call 2 [6, 7, 8, 9, 10] [18, 5] (by kernel_rfl) (by kernel_rfl) rfl (by decide) rfl (.inr ⟨⟨4, .chain⟩, by simp, rfl, rfl⟩) (by simp) 47 (fun s => #[.pointer (some ⟨w.heap.size + 1, 0, none⟩), .int .i64 2]) (fun s W hS => by exact ⟨by simp [go_sem, Act.eval, dk.sets_get, List.lookup], (draw_once (w.heap.size + 1) a len cap 2 W (by omega) (hS.1 (by omega)).1.cur).mono fun e w9 hh => by obtain ⟨⟨z9, rfl⟩, k1, k2⟩ := hh; exact ⟨{ s with b := z9 }, _, rfl, (by simp [chd.But]), (by rintro _ ⟨⟩; exact dk.sets_on _ (by simp) _ rfl), fun h => ⟨(hS.1 (by omega)).1.draw k1 k2, st_block (hS.1 (by omega)).2 k2 (by omega)⟩, trivial, fun h => (by omega)⟩⟩), ?_⟩
    refine ⟨cht.sto 3 rfl (by decide) rfl (.inr ⟨⟨6, .chain⟩, by simp, rfl, rfl⟩) (by simp) rfl (fun s W hS => by obtain ⟨hZ, hN⟩ := hS.1 (by omega); have q0 : W.cell? ⟨w.heap.size, 0, none⟩ = some (.string ⟨#[]⟩) := bcell hZ.rb rfl; have r0 := bfree hZ.rb 0; have q1 : W.cell? ⟨w.heap.size, 1, none⟩ = some (.int .i64 0) := bcell hZ.rb rfl; have r1 := bfree hZ.rb 1; have q2 : W.cell? ⟨w.heap.size, 2, none⟩ = some (.slice none 0 0) := bcell hZ.rb rfl; have r2 := bfree hZ.rb 2; have q3 : W.cell? ⟨w.heap.size, 3, none⟩ = some (.slice none 0 0) := bcell hZ.rb rfl; have r3 := bfree hZ.rb 3; exact ⟨res4 W w.heap.size (.string sn) (.int .i64 nx) (.slice ga es.length cg) (.slice ha ms.length ch), by simp [execOp, go_sem, Act.eval, dk.sets_get, List.lookup, q0, q1, q2, q3, r0, r1, r2, r3, res4], fun h => (by omega), trivial, fun _ => ⟨(hZ.done _ _ _ _).1, (hZ.done _ _ _ _).2, res4_at hZ.rb ..⟩⟩), ?_⟩
    refine ⟨cht.quiet 4 rfl (by decide) (.inl rfl) (by simp) (fun s => .int .i64 s.x) (by rintro s _ ⟨⟩; exact dk.sets_on _ (by simp) _ rfl) (fun s k' W hk' hS => by simp [execOp, go_sem, Act.eval, dk.sets_get, List.lookup]), ?_⟩
    refine ⟨cht.quiet 4 rfl (by decide) (.inl rfl) (by simp) (fun s => .int .i64 s.a) (by rintro s _ ⟨⟩; exact dk.sets_on _ (by simp) _ rfl) (fun s k' W hk' hS => by simp [execOp, go_sem, Act.eval, dk.sets_get, List.lookup]), ?_⟩
    exact ⟨cht.quiet 4 rfl (by decide) (.inl rfl) (by simp) (fun s => .bool s.b) (by rintro s _ ⟨⟩; exact dk.sets_on _ (by simp) _ rfl) (fun s k' W hk' hS => by simp [execOp, go_sem, Act.eval, dk.sets_get, List.lookup]), trivial⟩
  case fin =>
    intro s x5 hS
    obtain ⟨hd5, hb5, hr5⟩ := hS.2.2 rfl
    have q0 : x5.cell? ⟨w.heap.size, 0, none⟩ = some (.string sn) := bcell hr5 rfl
    have q1 : x5.cell? ⟨w.heap.size, 1, none⟩ = some (.int .i64 nx) := bcell hr5 rfl
    have q2 : x5.cell? ⟨w.heap.size, 2, none⟩ = some (.slice ga es.length cg) := bcell hr5 rfl
    have q3 : x5.cell? ⟨w.heap.size, 3, none⟩ = some (.slice ha ms.length ch) := bcell hr5 rfl
    have HD5 : Hid (Tq w.heap.size x5 es ms ga cg ha ch ∧ Below w.heap.size w x5 ∧ w.heap.size < x5.heap.size) := ⟨hd5, hb5, (Array.getElem?_eq_some_iff.1 hr5).1⟩
    obtain ⟨sx, sA, sY, sT, sN, sU, sB⟩ := s
    simp only [dk.sets]
    clear hS hd5 hb5 hr5
    go_wp2
    exact bodyPost_ret (v := .tuple #[.agg #[.string sn, .int .i64 nx, .slice ga es.length cg, .slice ha ms.length ch], .int .i64 sx, .int .i64 sA, .bool sB]) (by simp [results, Try.results20, go_sem, q0, q1, q2, q3]) rfl ⟨⟨sn, nx, es, ms, ga, cg, ha, ch, sx, sA, sB, rfl, HSM.out, HD5.out.1⟩, HD5.out.2⟩
set_option maxRecDepth 100000 in
set_option maxHeartbeats 2000000 in
theorem draw_pop (a : Option Addr) (len cap : Nat) (w : World) (hlen : len ≤ 1048576) (hc : dw.Code w w.heap.size a len) :
    Calls Try.prog 16 #[.slice a len cap] w fun e w' => (∃ (sn : ByteArray) (nx : Int) (es : List flM.Ms) (ms : List flH.Hd) (ga : Option Addr) (cg : Nat) (ha : Option Addr) (ch : Nat) (o t : Int), e = .returned (.tuple #[.agg #[.string sn, .int .i64 nx, .slice ga es.length cg, .slice ha ms.length ch], .int .i64 o, .int .i64 t]) ∧ Sm 520 sn es ms ∧ Tq w.heap.size w' es ms ga cg ha ch) ∧ Below w.heap.size w w' ∧ w.heap.size < w'.heap.size := by
  have h1 := draw_new a len cap _ hlen (code_at hc)
  have HR0 : Hid ((w.alloc (.cells #[.string ⟨#[]⟩, .int .i64 0, .slice none 0 0, .slice none 0 0] 27)).heap[w.heap.size]? = some (.cells #[.string ⟨#[]⟩, .int .i64 0, .slice none 0 0, .slice none 0 0] 27 (0, 0))) := bnew w _ _
  have HB0 : Hid (Below w.heap.size w (w.alloc (.cells #[.string ⟨#[]⟩, .int .i64 0, .slice none 0 0, .slice none 0 0] 27))) := (Below.refl _ _).alloc (Nat.le_refl _) _
  clear hc
  go_enter Try.func16, Try.ntmps16
  go_wp2_with (go_at_call 43; fail)
  refine h1.mono ?_
  rintro e w1 ⟨rfl, hc1, hb1⟩
  rw [World.size_alloc] at hc1 hb1
  have hR1 := bstay HR0.out hb1 (by omega)
  have hB1 := HB0.out.trans (hb1.mono (by omega))
  have h2 := draw_queue (w.heap.size + 1) a len cap w1 hc1
  have hlt1 := hc1.lt
  have HR1 : Hid (w1.heap[w.heap.size]? = some (.cells #[.string ⟨#[]⟩, .int .i64 0, .slice none 0 0, .slice none 0 0] 27 (0, 0))) := hR1
  have HB1 : Hid (Below w.heap.size w w1) := hB1
  clear h1 hc1 hb1 hR1 hB1 HR0 HB0
  go_wp2_with (go_at_call 44; fail)
  refine h2.mono ?_
  rintro e w2 ⟨⟨sn, nx, es, ms, ga, cg, ha, ch, rfl, hsm, hdr⟩, hc2, hb2⟩
  have HD2 : Hid (Dz a len cap w sn nx es ms ga cg ha ch w2) := ⟨st_block HR1.out hb2 (by omega), hc2, HB1.out.trans (hb2.below (by omega) (by omega)), hdr.low (by omega)⟩
  have HSM : Hid (Sm 520 sn es ms) := hsm
  have hsz2 := hb2.size
  clear h2 hsm hdr hc2 hb2 HR1 HB1
  have HN2 : Hid ((w2.alloc (.cells #[.string sn, .int .i64 nx, .slice ga es.length cg, .slice ha ms.length ch] 27)).heap[w2.heap.size]? = some (.cells #[.string sn, .int .i64 nx, .slice ga es.length cg, .slice ha ms.length ch] 27 (0, 0))) := bnew w2 _ _
  have HD3 : Hid (Dz a len cap w sn nx es ms ga cg ha ch (w2.alloc (.cells #[.string sn, .int .i64 nx, .slice ga es.length cg, .slice ha ms.length ch] 27))) := HD2.out.step ((Below.refl _ _).alloc (Nat.le_refl _) _)
  have hne2 : w2.heap.size ≠ w.heap.size + 1 := by omega
  go_wp2
  refine chf.region (σ := G3) (ws := (fun s : G3 => [(11, .agg #[.string sn, .int .i64 nx, .slice ga es.length cg, .slice ha ms.length ch]), (12, .pointer (some ⟨w.heap.size + 1, 0, none⟩)), (13, .slice (some ⟨s.a, 0, none⟩) 6 6), (14, .int .i64 s.n), (15, .pointer (some ⟨w.heap.size + 1, 0, none⟩)), (16, .slice (some ⟨s.y, 0, none⟩) 7 7), (17, .int .i64 s.u), (3, .int .i64 s.n), (4, .int .i64 s.u)])) (js := [2, 3, 6, 7]) (j0 := 5) (S := (fun g k b W => (k ≤ 3 → Dz a len cap w sn nx es ms ga cg ha ch W ∧ W.heap[w2.heap.size]? = some (.cells #[.string sn, .int .i64 nx, .slice ga es.length cg, .slice ha ms.length ch] 27 (0, 0))) ∧ ((k = 1 → w.heap.size + 1 ≠ g.a ∧ ∀ i, i < 6 → ∃ z ∈ intsO, W.cell? ⟨g.a, i, none⟩ = some (.int .i64 z)) ∧ (k ≤ 2 → b = true → w.heap.size + 1 ≠ g.y ∧ ∀ i, i < 7 → ∃ z ∈ intsT, W.cell? ⟨g.y, i, none⟩ = some (.int .i64 z))) ∧ (k = 4 → Tq w.heap.size W es ms ga cg ha ch ∧ Below w.heap.size w W ∧ W.heap[w.heap.size]? = some (.cells #[.string sn, .int .i64 nx, .slice ga es.length cg, .slice ha ms.length ch] 27 (0, 0))))) [11, 12, 13, 14, 15, 16, 17, 3, 4] ⟨0, 0, 0, ⟨#[]⟩, 0, 0, false⟩ (by kernel_rfl) (by kernel_rfl) (fun _ => rfl) (by kernel_rfl) (by decide) (by decide) ⟨fun _ => ⟨HD3.out.step (Below.refl _ _).drew, bstay HN2.out (Below.refl _ _).drew (by have := (Array.getElem?_eq_some_iff.1 HN2.out).1; omega)⟩, ⟨fun h => (by omega), fun _ h => (by cases h)⟩, fun h => (by omega)⟩ ?each ?fin
  case each =>
    refine ⟨chf.quiet 3 rfl (by decide) (by decide) (.inr ⟨7, _, rfl, rfl, ⟨0, .data⟩, by simp, rfl, rfl⟩) (by simp) (fun s => .agg #[.string sn, .int .i64 nx, .slice ga es.length cg, .slice ha ms.length ch]) (by rintro s _ ⟨⟩; exact dk.sets_on _ (by simp) _ rfl) (fun s k' b W hk' hS => by obtain ⟨hZ, hN⟩ := hS.1 hk'; have c0 : W.cell? ⟨w2.heap.size, 0, none⟩ = some (.string sn) := bcell hN rfl; have c1 : W.cell? ⟨w2.heap.size, 1, none⟩ = some (.int .i64 nx) := bcell hN rfl; have c2 : W.cell? ⟨w2.heap.size, 2, none⟩ = some (.slice ga es.length cg) := bcell hN rfl; have c3 : W.cell? ⟨w2.heap.size, 3, none⟩ = some (.slice ha ms.length ch) := bcell hN rfl; simp [execOp, go_sem, Act.eval, dk.sets_get, List.lookup, c0, c1, c2, c3]), ?_⟩
    refine ⟨chf.quiet 4 rfl (by decide) (by decide) (.inl rfl) (by simp) (fun s => .pointer (some ⟨w.heap.size + 1, 0, none⟩)) (by rintro s _ ⟨⟩; exact dk.sets_on _ (by simp) _ rfl) (fun s k' b W hk' hS => by simp [execOp, go_sem, Act.eval, dk.sets_get, List.lookup]), ?_⟩
    refine ⟨chf.eff 0 [2, 3, 6, 7, 8, 9] [13] (by kernel_rfl) (by kernel_rfl) rfl (by decide) (by decide) rfl (.inl rfl) (by simp) (fun s b W hS => by exact ⟨{ s with a := W.heap.size }, .slice (some ⟨W.heap.size, 0, none⟩) 6 6, W.alloc (.cells (intsO.map (Value.int .i64)).toArray 3), (by simp [chd.But]), (by rintro _ ⟨⟩; exact dk.sets_on _ (by simp) _ rfl), (by simp [execOp, go_sem, Act.eval, dk.sets_get, List.lookup, intsO]), fun h => ⟨(hS.1 (by omega)).1.step ((Below.refl _ _).alloc (Nat.le_refl _) _), bold (hS.1 (by omega)).2 _⟩, ⟨fun _ => ⟨(by have := (hS.1 (by omega)).1.cur.lt; show w.heap.size + 1 ≠ W.heap.size; omega), at_list W intsO _⟩, fun h hb9 => at_on (hS.2.1.2 (by omega) hb9) ((On.refl (w.heap.size + 1) W).alloc _)⟩, fun h => (by omega)⟩), ?_⟩
    refine ⟨chf.call 1 [3, 6, 7, 8, 9] [14, 3] (by kernel_rfl) (by kernel_rfl) rfl (by decide) (by decide) rfl (.inr ⟨⟨2, .data⟩, by simp, rfl, rfl⟩) (by simp) 52 (fun s => #[.pointer (some ⟨w.heap.size + 1, 0, none⟩), .slice (some ⟨s.a, 0, none⟩) 6 6]) (fun s b W hb hS => by exact ⟨by simp [go_sem, Act.eval, dk.sets_get, List.lookup], (draw_pick_int (w.heap.size + 1) a len cap s.a 6 intsO W (by omega) (Ne.symm (hS.2.1.1 rfl).1) (hS.2.1.1 rfl).2 (hS.1 (by omega)).1.cur).mono fun e w9 hh => by obtain ⟨⟨z9, hz9, rfl⟩, k1, k2⟩ := hh; exact ⟨{ s with n := z9 }, _, rfl, (by simp [chd.But]), (by rintro _ ⟨⟩; exact dk.sets_on _ (by simp) _ rfl), fun h => ⟨(hS.1 (by omega)).1.draw k1 k2, st_block (hS.1 (by omega)).2 k2 (by omega)⟩, ⟨fun h => (by omega), fun h hb9 => at_on (hS.2.1.2 (by omega) hb9) k2⟩, fun h => (by omega)⟩⟩), ?_⟩
    refine ⟨chf.quiet 4 rfl (by decide) (by decide) (.inl rfl) (by simp) (fun s => .pointer (some ⟨w.heap.size + 1, 0, none⟩)) (by rintro s _ ⟨⟩; exact dk.sets_on _ (by simp) _ rfl) (fun s k' b W hk' hS => by simp [execOp, go_sem, Act.eval, dk.sets_get, List.lookup]), ?_⟩
    refine ⟨chf.free 2 rfl (by decide) rfl (.inr ⟨6, _, rfl, rfl, ⟨5, .data⟩, by simp, rfl, rfl⟩) [5, 6, 7, 8, 9] [16] (by kernel_rfl) (by kernel_rfl) (by simp) (fun s k' W hk' hS => by exact ⟨{ s with y := W.heap.size }, .slice (some ⟨W.heap.size, 0, none⟩) 7 7, W.alloc (.cells (intsT.map (Value.int .i64)).toArray 3), (by simp [chd.But]), (by rintro _ ⟨⟩; exact dk.sets_on _ (by simp) _ rfl), (by simp [execOp, go_sem, Act.eval, dk.sets_get, List.lookup, intsT]), fun h => ⟨(hS.1 (by omega)).1.step ((Below.refl _ _).alloc (Nat.le_refl _) _), bold (hS.1 (by omega)).2 _⟩, ⟨fun h => at_on (hS.2.1.1 h) ((On.refl (w.heap.size + 1) W).alloc _), fun _ _ => ⟨(by have := (hS.1 (by omega)).1.cur.lt; show w.heap.size + 1 ≠ W.heap.size; omega), at_list W intsT _⟩⟩, fun h => (by omega)⟩), ?_⟩
    refine ⟨chf.call 2 [6, 7, 8, 9] [17, 4] (by kernel_rfl) (by kernel_rfl) rfl (by decide) (by decide) rfl (.inr ⟨⟨3, .chain⟩, by simp, rfl, rfl⟩) (by simp) 52 (fun s => #[.pointer (some ⟨w.heap.size + 1, 0, none⟩), .slice (some ⟨s.y, 0, none⟩) 7 7]) (fun s b W hb hS => by have hb' : b = true := hb ⟨⟨5, .data⟩, by simp, rfl, rfl⟩; exact ⟨by simp [go_sem, Act.eval, dk.sets_get, List.lookup], (draw_pick_int (w.heap.size + 1) a len cap s.y 7 intsT W (by omega) (Ne.symm (hS.2.1.2 (by omega) hb').1) (hS.2.1.2 (by omega) hb').2 (hS.1 (by omega)).1.cur).mono fun e w9 hh => by obtain ⟨⟨z9, hz9, rfl⟩, k1, k2⟩ := hh; exact ⟨{ s with u := z9 }, _, rfl, (by simp [chd.But]), (by rintro _ ⟨⟩; exact dk.sets_on _ (by simp) _ rfl), fun h => ⟨(hS.1 (by omega)).1.draw k1 k2, st_block (hS.1 (by omega)).2 k2 (by omega)⟩, ⟨fun h => (by omega), fun h => (by omega)⟩, fun h => (by omega)⟩⟩), ?_⟩
    refine ⟨chf.sto 3 rfl (by decide) (by decide) rfl (.inr ⟨⟨6, .chain⟩, by simp, rfl, rfl⟩) (by simp) rfl (fun s b W hS => by obtain ⟨hZ, hN⟩ := hS.1 (by omega); have q0 : W.cell? ⟨w.heap.size, 0, none⟩ = some (.string ⟨#[]⟩) := bcell hZ.rb rfl; have r0 := bfree hZ.rb 0; have q1 : W.cell? ⟨w.heap.size, 1, none⟩ = some (.int .i64 0) := bcell hZ.rb rfl; have r1 := bfree hZ.rb 1; have q2 : W.cell? ⟨w.heap.size, 2, none⟩ = some (.slice none 0 0) := bcell hZ.rb rfl; have r2 := bfree hZ.rb 2; have q3 : W.cell? ⟨w.heap.size, 3, none⟩ = some (.slice none 0 0) := bcell hZ.rb rfl; have r3 := bfree hZ.rb 3; exact ⟨res4 W w.heap.size (.string sn) (.int .i64 nx) (.slice ga es.length cg) (.slice ha ms.length ch), by simp [execOp, go_sem, Act.eval, dk.sets_get, List.lookup, q0, q1, q2, q3, r0, r1, r2, r3, res4], fun h => (by omega), ⟨fun h => (by omega), fun h => (by omega)⟩, fun _ => ⟨(hZ.done _ _ _ _).1, (hZ.done _ _ _ _).2, res4_at hZ.rb ..⟩⟩), ?_⟩
    refine ⟨chf.quiet 4 rfl (by decide) (by decide) (.inl rfl) (by simp) (fun s => .int .i64 s.n) (by rintro s _ ⟨⟩; exact dk.sets_on _ (by simp) _ rfl) (fun s k' b W hk' hS => by simp [execOp, go_sem, Act.eval, dk.sets_get, List.lookup]), ?_⟩
    exact ⟨chf.quiet 4 rfl (by decide) (by decide) (.inl rfl) (by simp) (fun s => .int .i64 s.u) (by rintro s _ ⟨⟩; exact dk.sets_on _ (by simp) _ rfl) (fun s k' b W hk' hS => by simp [execOp, go_sem, Act.eval, dk.sets_get, List.lookup]), trivial⟩
  case fin =>
    intro s x5 hS
    obtain ⟨hd5, hb5, hr5⟩ := hS.2.2 rfl
    have q0 : x5.cell? ⟨w.heap.size, 0, none⟩ = some (.string sn) := bcell hr5 rfl
    have q1 : x5.cell? ⟨w.heap.size, 1, none⟩ = some (.int .i64 nx) := bcell hr5 rfl
    have q2 : x5.cell? ⟨w.heap.size, 2, none⟩ = some (.slice ga es.length cg) := bcell hr5 rfl
    have q3 : x5.cell? ⟨w.heap.size, 3, none⟩ = some (.slice ha ms.length ch) := bcell hr5 rfl
    have HD5 : Hid (Tq w.heap.size x5 es ms ga cg ha ch ∧ Below w.heap.size w x5 ∧ w.heap.size < x5.heap.size) := ⟨hd5, hb5, (Array.getElem?_eq_some_iff.1 hr5).1⟩
    obtain ⟨sx, sA, sY, sT, sN, sU, sB⟩ := s
    simp only [dk.sets]
    clear hS hd5 hb5 hr5
    go_wp2
    exact bodyPost_ret (v := .tuple #[.agg #[.string sn, .int .i64 nx, .slice ga es.length cg, .slice ha ms.length ch], .int .i64 sN, .int .i64 sU]) (by simp [results, Try.results16, go_sem, q0, q1, q2, q3]) rfl ⟨⟨sn, nx, es, ms, ga, cg, ha, ch, sN, sU, rfl, HSM.out, HD5.out.1⟩, HD5.out.2⟩
set_option maxRecDepth 100000 in
set_option maxHeartbeats 2000000 in
theorem draw_push (a : Option Addr) (len cap : Nat) (w : World) (hlen : len ≤ 1048576) (hc : dw.Code w w.heap.size a len) :
    Calls Try.prog 13 #[.slice a len cap] w fun e w' => (∃ (sn : ByteArray) (nx : Int) (es : List flM.Ms) (ms : List flH.Hd) (ga : Option Addr) (cg : Nat) (ha : Option Addr) (ch : Nat) (x k b : ByteArray), e = .returned (.tuple #[.agg #[.string sn, .int .i64 nx, .slice ga es.length cg, .slice ha ms.length ch], .string x, .string k, .string b]) ∧ Sm 520 sn es ms ∧ Tq w.heap.size w' es ms ga cg ha ch ∧ x.size ≤ 1 ∧ k.size ≤ 100 ∧ b.size ≤ 3001) ∧ Below w.heap.size w w' ∧ w.heap.size < w'.heap.size := by
  have h1 := draw_new a len cap _ hlen (code_at hc)
  have HR0 : Hid ((w.alloc (.cells #[.string ⟨#[]⟩, .int .i64 0, .slice none 0 0, .slice none 0 0] 27)).heap[w.heap.size]? = some (.cells #[.string ⟨#[]⟩, .int .i64 0, .slice none 0 0, .slice none 0 0] 27 (0, 0))) := bnew w _ _
  have HB0 : Hid (Below w.heap.size w (w.alloc (.cells #[.string ⟨#[]⟩, .int .i64 0, .slice none 0 0, .slice none 0 0] 27))) := (Below.refl _ _).alloc (Nat.le_refl _) _
  clear hc
  go_enter Try.func13, Try.ntmps13
  go_wp2_with (go_at_call 43; fail)
  refine h1.mono ?_
  rintro e w1 ⟨rfl, hc1, hb1⟩
  rw [World.size_alloc] at hc1 hb1
  have hR1 := bstay HR0.out hb1 (by omega)
  have hB1 := HB0.out.trans (hb1.mono (by omega))
  have h2 := draw_queue (w.heap.size + 1) a len cap w1 hc1
  have hlt1 := hc1.lt
  have HR1 : Hid (w1.heap[w.heap.size]? = some (.cells #[.string ⟨#[]⟩, .int .i64 0, .slice none 0 0, .slice none 0 0] 27 (0, 0))) := hR1
  have HB1 : Hid (Below w.heap.size w w1) := hB1
  clear h1 hc1 hb1 hR1 hB1 HR0 HB0
  go_wp2_with (go_at_call 44; fail)
  refine h2.mono ?_
  rintro e w2 ⟨⟨sn, nx, es, ms, ga, cg, ha, ch, rfl, hsm, hdr⟩, hc2, hb2⟩
  have HD2 : Hid (Dz a len cap w sn nx es ms ga cg ha ch w2) := ⟨st_block HR1.out hb2 (by omega), hc2, HB1.out.trans (hb2.below (by omega) (by omega)), hdr.low (by omega)⟩
  have HSM : Hid (Sm 520 sn es ms) := hsm
  have hsz2 := hb2.size
  clear h2 hsm hdr hc2 hb2 HR1 HB1
  have HN2 : Hid ((w2.alloc (.cells #[.string sn, .int .i64 nx, .slice ga es.length cg, .slice ha ms.length ch] 27)).heap[w2.heap.size]? = some (.cells #[.string sn, .int .i64 nx, .slice ga es.length cg, .slice ha ms.length ch] 27 (0, 0))) := bnew w2 _ _
  have HD3 : Hid (Dz a len cap w sn nx es ms ga cg ha ch (w2.alloc (.cells #[.string sn, .int .i64 nx, .slice ga es.length cg, .slice ha ms.length ch] 27))) := HD2.out.step ((Below.refl _ _).alloc (Nat.le_refl _) _)
  have hne2 : w2.heap.size ≠ w.heap.size + 1 := by omega
  have g1 := draw_pick (w.heap.size + 1) a len cap (w2.alloc (.cells #[.string sn, .int .i64 nx, .slice ga es.length cg, .slice ha ms.length ch] 27)).heap.size 3 keys3 _ (by omega) (by rw [World.size_alloc]; omega) (at_texts (w2.alloc (.cells #[.string sn, .int .i64 nx, .slice ga es.length cg, .slice ha ms.length ch] 27)) keys3 9) (HD3.out.step ((Below.refl _ _).alloc (Nat.le_refl _) _)).cur
  have HD4 : Hid (Dz a len cap w sn nx es ms ga cg ha ch ((w2.alloc (.cells #[.string sn, .int .i64 nx, .slice ga es.length cg, .slice ha ms.length ch] 27)).alloc (.cells (keys3.map Value.string).toArray 9))) := HD3.out.step ((Below.refl _ _).alloc (Nat.le_refl _) _)
  have HN4 : Hid (((w2.alloc (.cells #[.string sn, .int .i64 nx, .slice ga es.length cg, .slice ha ms.length ch] 27)).alloc (.cells (keys3.map Value.string).toArray 9)).heap[w2.heap.size]? = some (.cells #[.string sn, .int .i64 nx, .slice ga es.length cg, .slice ha ms.length ch] 27 (0, 0))) := bold HN2.out _
  rw [World.size_alloc] at g1
  go_wp2_with (go_at_call 45; fail)
  refine g1.mono ?_
  rintro e w3 ⟨⟨xx, hrr, rfl⟩, hc3, hb3⟩
  have hxx := keys3_in xx hrr
  have HD5 : Hid (Dz a len cap w sn nx es ms ga cg ha ch w3) := HD4.out.draw hc3 hb3
  have HN5 : Hid (w3.heap[w2.heap.size]? = some (.cells #[.string sn, .int .i64 nx, .slice ga es.length cg, .slice ha ms.length ch] 27 (0, 0))) := st_block HN4.out hb3 (by omega)
  have hsz3 : w2.heap.size < w3.heap.size := (Array.getElem?_eq_some_iff.1 HN5.out).1
  have g2 := dp.draw_key (w.heap.size + 1) a len cap w3 HD5.out.cur
  clear g1 hc3 hb3 HD4 HN4 HD3 HN2 hrr HD2
  go_wp2_with (go_at_call 46; fail)
  refine g2.mono ?_
  rintro e w4 ⟨⟨kk, hkk, rfl⟩, hc4, hb4⟩
  have HD6 : Hid (Dz a len cap w sn nx es ms ga cg ha ch w4) := HD5.out.draw hc4 hb4
  have HN6 : Hid (w4.heap[w2.heap.size]? = some (.cells #[.string sn, .int .i64 nx, .slice ga es.length cg, .slice ha ms.length ch] 27 (0, 0))) := st_block HN5.out hb4 (by omega)
  have hsz4 : w2.heap.size < w4.heap.size := (Array.getElem?_eq_some_iff.1 HN6.out).1
  have g3 := draw_once (w.heap.size + 1) a len cap 20 w4 (by omega) HD6.out.cur
  clear g2 hc4 hb4 HD5 HN5
  go_wp2_with (go_at_call 47; fail)
  refine g3.mono ?_
  rintro e w5 ⟨⟨bo, rfl⟩, hc5, hb5⟩
  have HD8 : Hid (Dz a len cap w sn nx es ms ga cg ha ch w5) := HD6.out.draw hc5 hb5
  have HN8 : Hid (w5.heap[w2.heap.size]? = some (.cells #[.string sn, .int .i64 nx, .slice ga es.length cg, .slice ha ms.length ch] 27 (0, 0))) := st_block HN6.out hb5 (by omega)
  have hsz5 : w2.heap.size < w5.heap.size := (Array.getElem?_eq_some_iff.1 HN8.out).1
  clear g3 hc5 hb5 HD6 HN6
  cases bo with
  | true =>
    go_wp2
    refine cht.region (σ := G3) (ws := (fun s : G3 => [(21, .agg #[.string sn, .int .i64 nx, .slice ga es.length cg, .slice ha ms.length ch]), (22, .string xx), (23, .string kk), (24, .pointer (some ⟨w.heap.size + 1, 0, none⟩)), (25, .pointer (some ⟨w.heap.size + 1, 0, none⟩)), (26, .int .i64 s.x), (27, .int .i64 (3000 + (s.x : Int))), (28, .string s.t), (3, .string xx), (4, .string kk), (5, .string s.t)])) (js := [5, 7, 8]) (S := (fun g k W => (k ≤ 2 → Dz a len cap w sn nx es ms ga cg ha ch W ∧ W.heap[w2.heap.size]? = some (.cells #[.string sn, .int .i64 nx, .slice ga es.length cg, .slice ha ms.length ch] 27 (0, 0))) ∧ (g.x < 2 ∧ g.t.size ≤ 3001) ∧ (k = 3 → Tq w.heap.size W es ms ga cg ha ch ∧ Below w.heap.size w W ∧ W.heap[w.heap.size]? = some (.cells #[.string sn, .int .i64 nx, .slice ga es.length cg, .slice ha ms.length ch] 27 (0, 0))))) [21, 22, 23, 24, 25, 26, 27, 28, 3, 4, 5] ⟨0, 0, 0, ⟨#[]⟩, 0, 0, false⟩ (by kernel_rfl) (by kernel_rfl) (fun _ => rfl) (by kernel_rfl) (by decide) ⟨fun _ => ⟨HD8.out.step (Below.refl _ _).drew, bstay HN8.out (Below.refl _ _).drew (by have := (Array.getElem?_eq_some_iff.1 HN8.out).1; omega)⟩, ⟨by decide, by decide⟩, fun h => (by omega)⟩ ?each ?fin
    case each =>
      refine ⟨cht.quiet 2 rfl (by decide) (.inr ⟨8, _, rfl, rfl, ⟨0, .data⟩, by simp, rfl, rfl⟩) (by simp) (fun s => .agg #[.string sn, .int .i64 nx, .slice ga es.length cg, .slice ha ms.length ch]) (by rintro s _ ⟨⟩; exact dk.sets_on _ (by simp) _ rfl) (fun s k' W hk' hS => by obtain ⟨hZ, hN⟩ := hS.1 hk'; have c0 : W.cell? ⟨w2.heap.size, 0, none⟩ = some (.string sn) := bcell hN rfl; have c1 : W.cell? ⟨w2.heap.size, 1, none⟩ = some (.int .i64 nx) := bcell hN rfl; have c2 : W.cell? ⟨w2.heap.size, 2, none⟩ = some (.slice ga es.length cg) := bcell hN rfl; have c3 : W.cell? ⟨w2.heap.size, 3, none⟩ = some (.slice ha ms.length ch) := bcell hN rfl; simp [execOp, go_sem, Act.eval, dk.sets_get, List.lookup, c0, c1, c2, c3]), ?_⟩
      refine ⟨cht.quiet 3 rfl (by decide) (.inl rfl) (by simp) (fun s => .string xx) (by rintro s _ ⟨⟩; exact dk.sets_on _ (by simp) _ rfl) (fun s k' W hk' hS => by simp [execOp, go_sem, Act.eval, dk.sets_get, List.lookup]), ?_⟩
      refine ⟨cht.quiet 3 rfl (by decide) (.inl rfl) (by simp) (fun s => .string kk) (by rintro s _ ⟨⟩; exact dk.sets_on _ (by simp) _ rfl) (fun s k' W hk' hS => by simp [execOp, go_sem, Act.eval, dk.sets_get, List.lookup]), ?_⟩
      refine ⟨cht.quiet 3 rfl (by decide) (.inl rfl) (by simp) (fun s => .pointer (some ⟨w.heap.size + 1, 0, none⟩)) (by rintro s _ ⟨⟩; exact dk.sets_on _ (by simp) _ rfl) (fun s k' W hk' hS => by simp [execOp, go_sem, Act.eval, dk.sets_get, List.lookup]), ?_⟩
      refine ⟨cht.quiet 3 rfl (by decide) (.inl rfl) (by simp) (fun s => .pointer (some ⟨w.heap.size + 1, 0, none⟩)) (by rintro s _ ⟨⟩; exact dk.sets_on _ (by simp) _ rfl) (fun s k' W hk' hS => by simp [execOp, go_sem, Act.eval, dk.sets_get, List.lookup]), ?_⟩
      refine ⟨chd.call 0 [5, 6, 7, 8, 9, 10, 11] [26, 27] (by kernel_rfl) (by kernel_rfl) rfl (by decide) rfl (.inl rfl) (by simp) 49 (fun s => #[.pointer (some ⟨w.heap.size + 1, 0, none⟩), .int .i64 2]) (fun s W hS => by exact ⟨by simp [go_sem, Act.eval, dk.sets_get, List.lookup], (draw_below (w.heap.size + 1) a len cap 2 W (by omega) (hS.1 (by omega)).1.cur).mono fun e w9 hh => by obtain ⟨⟨z9, hz9, rfl⟩, k1, k2⟩ := hh; exact ⟨{ s with x := z9 }, _, rfl, (by simp [chd.But]), (by rintro _ ⟨⟩; exact dk.sets_on _ (by simp) _ rfl), fun h => ⟨(hS.1 (by omega)).1.draw k1 k2, st_block (hS.1 (by omega)).2 k2 (by omega)⟩, ⟨hz9, hS.2.1.2⟩, fun h => (by omega)⟩⟩), ?_⟩
      refine ⟨cht.quiet 3 rfl (by decide) (.inl rfl) (by simp) (fun s => .int .i64 (3000 + (s.x : Int))) (by rintro s _ ⟨⟩; exact dk.sets_on _ (by simp) _ rfl) (fun s k' W hk' hS => by have h9 := hS.2.1.1; have hwr : IntKind.i64.wrap (3000 + (s.x : Int)) = 3000 + (s.x : Int) := (by rw [IntKind.wrap_i64]; omega); simp [execOp, go_sem, Act.eval, dk.sets_get, List.lookup, hwr]), ?_⟩
      refine ⟨chd.call 1 [7, 8, 9, 10, 11] [28, 5] (by kernel_rfl) (by kernel_rfl) rfl (by decide) rfl (.inr ⟨⟨5, .chain⟩, by simp, rfl, rfl⟩) (by simp) 48 (fun s => #[.pointer (some ⟨w.heap.size + 1, 0, none⟩), .int .i64 (3000 + (s.x : Int))]) (fun s W hS => by have h9 := draw_bytes (w.heap.size + 1) a len cap (3000 + s.x) W (by have := hS.2.1.1; omega) (hS.1 (by omega)).1.cur; rw [show (((3000 + s.x : Nat)) : Int) = 3000 + (s.x : Int) by omega] at h9; exact ⟨by simp [go_sem, Act.eval, dk.sets_get, List.lookup], h9.mono fun e w9 hh => by obtain ⟨⟨z9, hz9, rfl⟩, k1, k2⟩ := hh; exact ⟨{ s with t := z9 }, _, rfl, (by simp [chd.But]), (by rintro _ ⟨⟩; exact dk.sets_on _ (by simp) _ rfl), fun h => ⟨(hS.1 (by omega)).1.draw k1 k2, st_block (hS.1 (by omega)).2 k2 (by omega)⟩, ⟨hS.2.1.1, (by have h8 := hS.2.1.1; show z9.size ≤ 3001; omega)⟩, fun h => (by omega)⟩⟩), ?_⟩
      refine ⟨cht.sto 2 rfl (by decide) rfl (.inr ⟨⟨7, .chain⟩, by simp, rfl, rfl⟩) (by simp) rfl (fun s W hS => by obtain ⟨hZ, hN⟩ := hS.1 (by omega); have q0 : W.cell? ⟨w.heap.size, 0, none⟩ = some (.string ⟨#[]⟩) := bcell hZ.rb rfl; have r0 := bfree hZ.rb 0; have q1 : W.cell? ⟨w.heap.size, 1, none⟩ = some (.int .i64 0) := bcell hZ.rb rfl; have r1 := bfree hZ.rb 1; have q2 : W.cell? ⟨w.heap.size, 2, none⟩ = some (.slice none 0 0) := bcell hZ.rb rfl; have r2 := bfree hZ.rb 2; have q3 : W.cell? ⟨w.heap.size, 3, none⟩ = some (.slice none 0 0) := bcell hZ.rb rfl; have r3 := bfree hZ.rb 3; exact ⟨res4 W w.heap.size (.string sn) (.int .i64 nx) (.slice ga es.length cg) (.slice ha ms.length ch), by simp [execOp, go_sem, Act.eval, dk.sets_get, List.lookup, q0, q1, q2, q3, r0, r1, r2, r3, res4], fun h => (by omega), hS.2.1, fun _ => ⟨(hZ.done _ _ _ _).1, (hZ.done _ _ _ _).2, res4_at hZ.rb ..⟩⟩), ?_⟩
      refine ⟨cht.quiet 3 rfl (by decide) (.inl rfl) (by simp) (fun s => .string xx) (by rintro s _ ⟨⟩; exact dk.sets_on _ (by simp) _ rfl) (fun s k' W hk' hS => by simp [execOp, go_sem, Act.eval, dk.sets_get, List.lookup]), ?_⟩
      refine ⟨cht.quiet 3 rfl (by decide) (.inl rfl) (by simp) (fun s => .string kk) (by rintro s _ ⟨⟩; exact dk.sets_on _ (by simp) _ rfl) (fun s k' W hk' hS => by simp [execOp, go_sem, Act.eval, dk.sets_get, List.lookup]), ?_⟩
      exact ⟨cht.quiet 3 rfl (by decide) (.inl rfl) (by simp) (fun s => .string s.t) (by rintro s _ ⟨⟩; exact dk.sets_on _ (by simp) _ rfl) (fun s k' W hk' hS => by simp [execOp, go_sem, Act.eval, dk.sets_get, List.lookup]), trivial⟩
    case fin =>
      intro s x5 hS
      have HST : s.t.size ≤ 3001 := hS.2.1.2
      obtain ⟨hd5, hb5, hr5⟩ := hS.2.2 rfl
      have q0 : x5.cell? ⟨w.heap.size, 0, none⟩ = some (.string sn) := bcell hr5 rfl
      have q1 : x5.cell? ⟨w.heap.size, 1, none⟩ = some (.int .i64 nx) := bcell hr5 rfl
      have q2 : x5.cell? ⟨w.heap.size, 2, none⟩ = some (.slice ga es.length cg) := bcell hr5 rfl
      have q3 : x5.cell? ⟨w.heap.size, 3, none⟩ = some (.slice ha ms.length ch) := bcell hr5 rfl
      have HD5 : Hid (Tq w.heap.size x5 es ms ga cg ha ch ∧ Below w.heap.size w x5 ∧ w.heap.size < x5.heap.size) := ⟨hd5, hb5, (Array.getElem?_eq_some_iff.1 hr5).1⟩
      obtain ⟨sx, sA, sY, sT, sN, sU, sB⟩ := s
      simp only [dk.sets]
      clear hS hd5 hb5 hr5
      go_wp2
      exact bodyPost_ret (v := .tuple #[.agg #[.string sn, .int .i64 nx, .slice ga es.length cg, .slice ha ms.length ch], .string xx, .string kk, .string sT]) (by simp [results, Try.results13, go_sem, q0, q1, q2, q3]) rfl ⟨⟨sn, nx, es, ms, ga, cg, ha, ch, xx, kk, sT, rfl, HSM.out, HD5.out.1, hxx, hkk, HST⟩, HD5.out.2⟩
  | false =>
    go_wp2
    refine cht.region (σ := G3) (ws := (fun s : G3 => [(29, .agg #[.string sn, .int .i64 nx, .slice ga es.length cg, .slice ha ms.length ch]), (30, .string xx), (31, .string kk), (32, .pointer (some ⟨w.heap.size + 1, 0, none⟩)), (33, .pointer (some ⟨w.heap.size + 1, 0, none⟩)), (34, .int .i64 s.x), (35, .string s.t), (3, .string xx), (4, .string kk), (5, .string s.t)])) (js := [5, 6, 7]) (S := (fun g k W => (k ≤ 2 → Dz a len cap w sn nx es ms ga cg ha ch W ∧ W.heap[w2.heap.size]? = some (.cells #[.string sn, .int .i64 nx, .slice ga es.length cg, .slice ha ms.length ch] 27 (0, 0))) ∧ (g.x < 6 ∧ g.t.size ≤ 3001) ∧ (k = 3 → Tq w.heap.size W es ms ga cg ha ch ∧ Below w.heap.size w W ∧ W.heap[w.heap.size]? = some (.cells #[.string sn, .int .i64 nx, .slice ga es.length cg, .slice ha ms.length ch] 27 (0, 0))))) [29, 30, 31, 32, 33, 34, 35, 3, 4, 5] ⟨0, 0, 0, ⟨#[]⟩, 0, 0, false⟩ (by kernel_rfl) (by kernel_rfl) (fun _ => rfl) (by kernel_rfl) (by decide) ⟨fun _ => ⟨HD8.out.step (Below.refl _ _).drew, bstay HN8.out (Below.refl _ _).drew (by have := (Array.getElem?_eq_some_iff.1 HN8.out).1; omega)⟩, ⟨by decide, by decide⟩, fun h => (by omega)⟩ ?each ?fin
    case each =>
      refine ⟨cht.quiet 2 rfl (by decide) (.inr ⟨7, _, rfl, rfl, ⟨0, .data⟩, by simp, rfl, rfl⟩) (by simp) (fun s => .agg #[.string sn, .int .i64 nx, .slice ga es.length cg, .slice ha ms.length ch]) (by rintro s _ ⟨⟩; exact dk.sets_on _ (by simp) _ rfl) (fun s k' W hk' hS => by obtain ⟨hZ, hN⟩ := hS.1 hk'; have c0 : W.cell? ⟨w2.heap.size, 0, none⟩ = some (.string sn) := bcell hN rfl; have c1 : W.cell? ⟨w2.heap.size, 1, none⟩ = some (.int .i64 nx) := bcell hN rfl; have c2 : W.cell? ⟨w2.heap.size, 2, none⟩ = some (.slice ga es.length cg) := bcell hN rfl; have c3 : W.cell? ⟨w2.heap.size, 3, none⟩ = some (.slice ha ms.length ch) := bcell hN rfl; simp [execOp, go_sem, Act.eval, dk.sets_get, List.lookup, c0, c1, c2, c3]), ?_⟩
      refine ⟨cht.quiet 3 rfl (by decide) (.inl rfl) (by simp) (fun s => .string xx) (by rintro s _ ⟨⟩; exact dk.sets_on _ (by simp) _ rfl) (fun s k' W hk' hS => by simp [execOp, go_sem, Act.eval, dk.sets_get, List.lookup]), ?_⟩
      refine ⟨cht.quiet 3 rfl (by decide) (.inl rfl) (by simp) (fun s => .string kk) (by rintro s _ ⟨⟩; exact dk.sets_on _ (by simp) _ rfl) (fun s k' W hk' hS => by simp [execOp, go_sem, Act.eval, dk.sets_get, List.lookup]), ?_⟩
      refine ⟨cht.quiet 3 rfl (by decide) (.inl rfl) (by simp) (fun s => .pointer (some ⟨w.heap.size + 1, 0, none⟩)) (by rintro s _ ⟨⟩; exact dk.sets_on _ (by simp) _ rfl) (fun s k' W hk' hS => by simp [execOp, go_sem, Act.eval, dk.sets_get, List.lookup]), ?_⟩
      refine ⟨cht.quiet 3 rfl (by decide) (.inl rfl) (by simp) (fun s => .pointer (some ⟨w.heap.size + 1, 0, none⟩)) (by rintro s _ ⟨⟩; exact dk.sets_on _ (by simp) _ rfl) (fun s k' W hk' hS => by simp [execOp, go_sem, Act.eval, dk.sets_get, List.lookup]), ?_⟩
      refine ⟨chd.call 0 [5, 6, 7, 8, 9, 10] [34] (by kernel_rfl) (by kernel_rfl) rfl (by decide) rfl (.inl rfl) (by simp) 49 (fun s => #[.pointer (some ⟨w.heap.size + 1, 0, none⟩), .int .i64 6]) (fun s W hS => by exact ⟨by simp [go_sem, Act.eval, dk.sets_get, List.lookup], (draw_below (w.heap.size + 1) a len cap 6 W (by omega) (hS.1 (by omega)).1.cur).mono fun e w9 hh => by obtain ⟨⟨z9, hz9, rfl⟩, k1, k2⟩ := hh; exact ⟨{ s with x := z9 }, _, rfl, (by simp [chd.But]), (by rintro _ ⟨⟩; exact dk.sets_on _ (by simp) _ rfl), fun h => ⟨(hS.1 (by omega)).1.draw k1 k2, st_block (hS.1 (by omega)).2 k2 (by omega)⟩, ⟨hz9, hS.2.1.2⟩, fun h => (by omega)⟩⟩), ?_⟩
      refine ⟨chd.call 1 [6, 7, 8, 9, 10] [35, 5] (by kernel_rfl) (by kernel_rfl) rfl (by decide) rfl (.inr ⟨⟨5, .data⟩, by simp, rfl, rfl⟩) (by simp) 48 (fun s => #[.pointer (some ⟨w.heap.size + 1, 0, none⟩), .int .i64 s.x]) (fun s W hS => by have h9 := draw_bytes (w.heap.size + 1) a len cap (s.x) W (by have := hS.2.1.1; omega) (hS.1 (by omega)).1.cur; exact ⟨by simp [go_sem, Act.eval, dk.sets_get, List.lookup], h9.mono fun e w9 hh => by obtain ⟨⟨z9, hz9, rfl⟩, k1, k2⟩ := hh; exact ⟨{ s with t := z9 }, _, rfl, (by simp [chd.But]), (by rintro _ ⟨⟩; exact dk.sets_on _ (by simp) _ rfl), fun h => ⟨(hS.1 (by omega)).1.draw k1 k2, st_block (hS.1 (by omega)).2 k2 (by omega)⟩, ⟨hS.2.1.1, (by have h8 := hS.2.1.1; show z9.size ≤ 3001; omega)⟩, fun h => (by omega)⟩⟩), ?_⟩
      refine ⟨cht.sto 2 rfl (by decide) rfl (.inr ⟨⟨6, .chain⟩, by simp, rfl, rfl⟩) (by simp) rfl (fun s W hS => by obtain ⟨hZ, hN⟩ := hS.1 (by omega); have q0 : W.cell? ⟨w.heap.size, 0, none⟩ = some (.string ⟨#[]⟩) := bcell hZ.rb rfl; have r0 := bfree hZ.rb 0; have q1 : W.cell? ⟨w.heap.size, 1, none⟩ = some (.int .i64 0) := bcell hZ.rb rfl; have r1 := bfree hZ.rb 1; have q2 : W.cell? ⟨w.heap.size, 2, none⟩ = some (.slice none 0 0) := bcell hZ.rb rfl; have r2 := bfree hZ.rb 2; have q3 : W.cell? ⟨w.heap.size, 3, none⟩ = some (.slice none 0 0) := bcell hZ.rb rfl; have r3 := bfree hZ.rb 3; exact ⟨res4 W w.heap.size (.string sn) (.int .i64 nx) (.slice ga es.length cg) (.slice ha ms.length ch), by simp [execOp, go_sem, Act.eval, dk.sets_get, List.lookup, q0, q1, q2, q3, r0, r1, r2, r3, res4], fun h => (by omega), hS.2.1, fun _ => ⟨(hZ.done _ _ _ _).1, (hZ.done _ _ _ _).2, res4_at hZ.rb ..⟩⟩), ?_⟩
      refine ⟨cht.quiet 3 rfl (by decide) (.inl rfl) (by simp) (fun s => .string xx) (by rintro s _ ⟨⟩; exact dk.sets_on _ (by simp) _ rfl) (fun s k' W hk' hS => by simp [execOp, go_sem, Act.eval, dk.sets_get, List.lookup]), ?_⟩
      refine ⟨cht.quiet 3 rfl (by decide) (.inl rfl) (by simp) (fun s => .string kk) (by rintro s _ ⟨⟩; exact dk.sets_on _ (by simp) _ rfl) (fun s k' W hk' hS => by simp [execOp, go_sem, Act.eval, dk.sets_get, List.lookup]), ?_⟩
      exact ⟨cht.quiet 3 rfl (by decide) (.inl rfl) (by simp) (fun s => .string s.t) (by rintro s _ ⟨⟩; exact dk.sets_on _ (by simp) _ rfl) (fun s k' W hk' hS => by simp [execOp, go_sem, Act.eval, dk.sets_get, List.lookup]), trivial⟩
    case fin =>
      intro s x5 hS
      have HST : s.t.size ≤ 3001 := hS.2.1.2
      obtain ⟨hd5, hb5, hr5⟩ := hS.2.2 rfl
      have q0 : x5.cell? ⟨w.heap.size, 0, none⟩ = some (.string sn) := bcell hr5 rfl
      have q1 : x5.cell? ⟨w.heap.size, 1, none⟩ = some (.int .i64 nx) := bcell hr5 rfl
      have q2 : x5.cell? ⟨w.heap.size, 2, none⟩ = some (.slice ga es.length cg) := bcell hr5 rfl
      have q3 : x5.cell? ⟨w.heap.size, 3, none⟩ = some (.slice ha ms.length ch) := bcell hr5 rfl
      have HD5 : Hid (Tq w.heap.size x5 es ms ga cg ha ch ∧ Below w.heap.size w x5 ∧ w.heap.size < x5.heap.size) := ⟨hd5, hb5, (Array.getElem?_eq_some_iff.1 hr5).1⟩
      obtain ⟨sx, sA, sY, sT, sN, sU, sB⟩ := s
      simp only [dk.sets]
      clear hS hd5 hb5 hr5
      go_wp2
      exact bodyPost_ret (v := .tuple #[.agg #[.string sn, .int .i64 nx, .slice ga es.length cg, .slice ha ms.length ch], .string xx, .string kk, .string sT]) (by simp [results, Try.results13, go_sem, q0, q1, q2, q3]) rfl ⟨⟨sn, nx, es, ms, ga, cg, ha, ch, xx, kk, sT, rfl, HSM.out, HD5.out.1, hxx, hkk, HST⟩, HD5.out.2⟩
set_option maxRecDepth 100000 in
set_option maxHeartbeats 2000000 in
theorem draw_ret (a : Option Addr) (len cap : Nat) (w : World) (hlen : len ≤ 1048576) (hc : dw.Code w w.heap.size a len) :
    Calls Try.prog 5 #[.slice a len cap] w fun e w' => (∃ (sn : ByteArray) (nx : Int) (es : List flM.Ms) (ms : List flH.Hd) (ga : Option Addr) (cg : Nat) (ha : Option Addr) (ch : Nat) (o t : Nat) (al : Bool), e = .returned (.tuple #[.agg #[.string sn, .int .i64 nx, .slice ga es.length cg, .slice ha ms.length ch], .int .i64 o, .int .i64 t, .bool al]) ∧ Sm 520 sn es ms ∧ Tq w.heap.size w' es ms ga cg ha ch) ∧ Below w.heap.size w w' ∧ w.heap.size < w'.heap.size := by
  have h1 := draw_asked a len cap _ hlen (code_at hc)
  have HR0 : Hid ((w.alloc (.cells #[.string ⟨#[]⟩, .int .i64 0, .slice none 0 0, .slice none 0 0] 27)).heap[w.heap.size]? = some (.cells #[.string ⟨#[]⟩, .int .i64 0, .slice none 0 0, .slice none 0 0] 27 (0, 0))) := bnew w _ _
  have HB0 : Hid (Below w.heap.size w (w.alloc (.cells #[.string ⟨#[]⟩, .int .i64 0, .slice none 0 0, .slice none 0 0] 27))) := (Below.refl _ _).alloc (Nat.le_refl _) _
  clear hc
  go_enter Try.func5, Try.ntmps5
  go_wp2_with (go_at_call 20; fail)
  refine h1.mono ?_
  rintro e w1 ⟨⟨sn, nx, es, ms, ga, cg, ha, ch, o, t, al, rfl, hsm, hdr⟩, hb1, hlt1⟩
  rw [World.size_alloc] at hdr hb1 hlt1
  have hR1 := bstay HR0.out hb1 (by omega)
  have HB1 : Hid (Below w.heap.size w w1) := HB0.out.trans (hb1.mono (by omega))
  have HRB : Hid (w1.heap[w.heap.size]? = some (.cells #[.string ⟨#[]⟩, .int .i64 0, .slice none 0 0, .slice none 0 0] 27 (0, 0))) := hR1
  have HTQ : Hid (∀ x0 x1 x2 x3, Tq w.heap.size (res4 w1 w.heap.size x0 x1 x2 x3) es ms ga cg ha ch ∧ Below w.heap.size w (res4 w1 w.heap.size x0 x1 x2 x3)) := fun x0 x1 x2 x3 => ⟨(tq_res4 hdr hR1 ..).low (by omega), ((((HB1.out.setCell (Nat.le_refl _) _).setCell (Nat.le_refl _) _).setCell (Nat.le_refl _) _).setCell (Nat.le_refl _) _)⟩
  have HSM : Hid (Sm 520 sn es ms) := hsm
  have q0 : w1.cell? ⟨w.heap.size, 0, none⟩ = some (.string ⟨#[]⟩) := bcell hR1 rfl
  have r0 := bfree hR1 0
  have q1 : w1.cell? ⟨w.heap.size, 1, none⟩ = some (.int .i64 0) := bcell hR1 rfl
  have r1 := bfree hR1 1
  have q2 : w1.cell? ⟨w.heap.size, 2, none⟩ = some (.slice none 0 0) := bcell hR1 rfl
  have r2 := bfree hR1 2
  have q3 : w1.cell? ⟨w.heap.size, 3, none⟩ = some (.slice none 0 0) := bcell hR1 rfl
  have r3 := bfree hR1 3
  clear h1 hsm hdr hb1 hR1 HR0 HB0
  go_wp2
  have hz9 := (Array.getElem?_eq_some_iff.1 HRB.out).1
  exact bodyPost_ret (v := .tuple #[.agg #[.string sn, .int .i64 nx, .slice ga es.length cg, .slice ha ms.length ch], .int .i64 o, .int .i64 t, .bool al]) (by simp [results, Try.results5, go_sem, q0, q1, q2, q3]) rfl ⟨⟨sn, nx, es, ms, ga, cg, ha, ch, o, t, al, rfl, HSM.out, (HTQ.out _ _ _ _).1⟩, (HTQ.out _ _ _ _).2, by simpa using hz9⟩
end Go.Proofs.Ytnlcmheahihlpaa.dqs

/- The program's take: the held ones that are meant, and the rest. -/
namespace Go.Proofs.Ytnlcmheahihlpaa.qti
open Go.ChangeShapes Go.WideShapes Go.ChangeAt Go.RowKit Go.Proofs.Ytnlcmheahihlpaa.fl Go.Proofs.Ytnlcmheahihlpaa.qdp Go.Proofs.Ytnlcmheahihlpaa.qts
set_option linter.unusedVariables false

set_option maxRecDepth 100000 in
set_option maxHeartbeats 2000000 in
theorem impl_take_true (hb : Nat) (v0 : Value) (nm : ByteArray) (nx : Int) (ms : List flH.Hd) (b0 bc : Nat) (o t : Int) (w : World) (hml : ms.length ≤ 1048576) (hX : w.heap[hb]? = some (.cells #[v0, .string nm, .int .i64 nx, .slice (some ⟨b0, 0, none⟩) ms.length bc] 82 (0, 0))) (hB : Row flH.c 7 w w.heap.size (some ⟨b0, 0, none⟩) ms) :
    Calls Try.prog 23 #[.pointer (some ⟨hb, 0, none⟩), .int .i64 o, .int .i64 t, .bool true] w fun e w' => ∃ v u wr, e = .returned v ∧ Tk w w.heap.size v u (gone o t true ms) (left o t true ms) wr ∧ w' = wr.setCell ⟨hb, 3, none⟩ u := by
  have hbl : hb < w.heap.size := (Array.getElem?_eq_some_iff.1 hX).1
  have bx : w.cell? ⟨hb, 3, none⟩ = some (.slice (some ⟨b0, 0, none⟩) ms.length bc) := bcell hX rfl
  have HBF : Hid (∀ V, Below w.heap.size w V → V.cell? ⟨hb, 3, none⟩ = some (.slice (some ⟨b0, 0, none⟩) ms.length bc) ∧ V.frozen? ⟨hb, 3, none⟩ = false) := fun V hV => ⟨bcell (bstay hX hV hbl) rfl, bfree (bstay hX hV hbl) 3⟩
  have HC : Hid (∀ V, Below w.heap.size w V → ∀ (i : Nat) (e : flH.Hd), ms[i]? = some e → ∀ (j : Nat) (v : Value), (flH.c e)[j]? = some v → V.cell? ⟨b0, i * 7 + j, none⟩ = some v) := fun V hV i e he j v hv => by
    rcases hB.inn hV with h | ⟨b, off, hb, hlt, hc⟩
    · rw [h] at he; simp at he
    · cases hb
      have := hc i e he j v hv
      rwa [Nat.zero_add] at this
  have HT0 : Hid (Tk w w.heap.size (.slice none 0 0) (.slice none 0 0) (gone o t true (ms.take 0)) (left o t true (ms.take 0)) w) := ⟨Below.refl _ _, Nat.le_refl _, .inl ⟨by simp [gone], _, rfl, .inl rfl⟩, .inl ⟨by simp [left], _, rfl, .inl rfl⟩, fun g h1 h2 => by simp [Value.ownBlock] at h1, fun g h1 => by simp [Value.ownBlock] at h1, fun g h1 => by simp [Value.ownBlock] at h1⟩
  clear hX hB
  go_enter Try.func23, Try.ntmps23
  go_wp2
  clear bx
  go_loopw [9, 10, 18] (fun v u y wr => ∃ k : Nat, k ≤ ms.length ∧ y = .int .i64 k ∧ Hid (Tk w w.heap.size v u (gone o t true (ms.take k)) (left o t true (ms.take k)) wr)) (fun _ _ y _ => ms.length - (intOf y).toNat)
  case atStart => exact ⟨0, Nat.zero_le _, rfl, HT0⟩
  case round =>
    obtain ⟨k, hk, rfl, hst⟩ := hrel
    clear HT0
    have hbel := hst.out.bel
    have hlo := hst.out.lo
    by_cases hkl : k < ms.length
    · have i2 : (k : Int) < (ms.length : Int) := by omega
      have HG : Hid (ms[k]? = some ms[k]) := List.getElem?_eq_getElem hkl
      obtain ⟨⟨ht, ho, ⟨q, x, y, z, ag⟩⟩, he⟩ : ∃ e, ms[k] = e := ⟨_, rfl⟩
      rw [he] at HG
      have cs := HC.out wr hbel k _ HG.out
      have c0 : wr.cell? ⟨b0, k * 7, none⟩ = some (.int .i64 ht) := cs 0 _ rfl
      have c1 : wr.cell? ⟨b0, k * 7 + 1, none⟩ = some (.int .i64 ho) := cs 1 _ rfl
      have c2 : wr.cell? ⟨b0, k * 7 + 2, none⟩ = some (.int .i64 q) := cs 2 _ rfl
      have c3 : wr.cell? ⟨b0, k * 7 + 3, none⟩ = some (.string x) := cs 3 _ rfl
      have c4 : wr.cell? ⟨b0, k * 7 + 4, none⟩ = some (.string y) := cs 4 _ rfl
      have c5 : wr.cell? ⟨b0, k * 7 + 5, none⟩ = some (.string z) := cs 5 _ rfl
      have c6 : wr.cell? ⟨b0, k * 7 + 6, none⟩ = some (.bool ag) := cs 6 _ rfl
      have HS : Hid (Tk w w.heap.size u9 u10 (gone o t true (ms.take k)) (left o t true (ms.take k)) wr) := hst.out
      clear he cs hst
      by_cases p1 : ho = o
      · obtain rfl : o = ho := p1.symm
        by_cases p2 : ht = t
        · obtain rfl : t = ht := p2.symm
          have hh : hit o t true ⟨t, o, ⟨q, x, y, z, ag⟩⟩ = true := by simp [hit]
          obtain ⟨e1, e2⟩ := both_yes HG.out hh
          have hal : Below wr.heap.size wr (wr.alloc (.cells #[.int .i64 t, .int .i64 o, .int .i64 q, .string x, .string y, .string z, .bool ag] 55)) := (Below.refl _ _).alloc (Nat.le_refl _) _
          have hal2 : Below (wr.alloc (.cells #[.int .i64 t, .int .i64 o, .int .i64 q, .string x, .string y, .string z, .bool ag] 55)).heap.size (wr.alloc (.cells #[.int .i64 t, .int .i64 o, .int .i64 q, .string x, .string y, .string z, .bool ag] 55)) ((wr.alloc (.cells #[.int .i64 t, .int .i64 o, .int .i64 q, .string x, .string y, .string z, .bool ag] 55)).alloc (.cells #[.int .i64 t, .int .i64 o, .int .i64 q, .string x, .string y, .string z, .bool ag] 55)) := (Below.refl _ _).alloc (Nat.le_refl _) _
          have hlen : (gone o t true (ms.take k)).length ≤ 1048576 := by have := gone_le o t true (ms.take k); rw [List.length_take] at this; omega
          obtain ⟨v', w', hrun, htk⟩ := Tk.app ⟨t, o, ⟨q, x, y, z, ag⟩⟩ (((HS.out.on hal).on hal2)) hlen (bnew (wr.alloc (.cells #[.int .i64 t, .int .i64 o, .int .i64 q, .string x, .string y, .string z, .bool ag] 55)) _ _) 25
          have HRUN : Hid ((Builtin.append_ #[25, 25] 25 #[u9, .slice (some ⟨(wr.alloc (.cells #[.int .i64 t, .int .i64 o, .int .i64 q, .string x, .string y, .string z, .bool ag] 55)).heap.size, 0, none⟩) 1 1]).run Try.prog ((wr.alloc (.cells #[.int .i64 t, .int .i64 o, .int .i64 q, .string x, .string y, .string z, .bool ag] 55)).alloc (.cells #[.int .i64 t, .int .i64 o, .int .i64 q, .string x, .string y, .string z, .bool ag] 55)) = .ok v' w') := hrun
          simp only [World.size_alloc] at HRUN
          have HN : Hid (Tk w w.heap.size v' u10 (gone o t true (ms.take (k + 1))) (left o t true (ms.take (k + 1))) w') := by
            unfold Hid
            rw [e1, e2]
            exact htk
          clear hrun htk hal hal2 HS e1 e2 hh 
          go_wp2_with (at_builtin; refine cpr.wpList_append_run rfl _ _ 25 25 rfl _ _ _ rfl rfl HRUN.out ?_)
          go_wp2
          go_roundw
          case rel => exact ⟨k + 1, by omega, by go_num, HN⟩
          case measure => simp [intOf]; omega
        · have q2 : (ht == t) = false := by simpa using p2
          by_cases p5 : ht < t
          · have q3 : decide (ht < t) = true := by simpa using p5
            have p4 := p2
            have p6 := p5
            have hh : hit o t true ⟨ht, o, ⟨q, x, y, z, ag⟩⟩ = true := by simp [hit, p4, p6]
            obtain ⟨e1, e2⟩ := both_yes HG.out hh
            have hal : Below wr.heap.size wr (wr.alloc (.cells #[.int .i64 ht, .int .i64 o, .int .i64 q, .string x, .string y, .string z, .bool ag] 55)) := (Below.refl _ _).alloc (Nat.le_refl _) _
            have hal2 : Below (wr.alloc (.cells #[.int .i64 ht, .int .i64 o, .int .i64 q, .string x, .string y, .string z, .bool ag] 55)).heap.size (wr.alloc (.cells #[.int .i64 ht, .int .i64 o, .int .i64 q, .string x, .string y, .string z, .bool ag] 55)) ((wr.alloc (.cells #[.int .i64 ht, .int .i64 o, .int .i64 q, .string x, .string y, .string z, .bool ag] 55)).alloc (.cells #[.int .i64 ht, .int .i64 o, .int .i64 q, .string x, .string y, .string z, .bool ag] 55)) := (Below.refl _ _).alloc (Nat.le_refl _) _
            have hlen : (gone o t true (ms.take k)).length ≤ 1048576 := by have := gone_le o t true (ms.take k); rw [List.length_take] at this; omega
            obtain ⟨v', w', hrun, htk⟩ := Tk.app ⟨ht, o, ⟨q, x, y, z, ag⟩⟩ (((HS.out.on hal).on hal2)) hlen (bnew (wr.alloc (.cells #[.int .i64 ht, .int .i64 o, .int .i64 q, .string x, .string y, .string z, .bool ag] 55)) _ _) 25
            have HRUN : Hid ((Builtin.append_ #[25, 25] 25 #[u9, .slice (some ⟨(wr.alloc (.cells #[.int .i64 ht, .int .i64 o, .int .i64 q, .string x, .string y, .string z, .bool ag] 55)).heap.size, 0, none⟩) 1 1]).run Try.prog ((wr.alloc (.cells #[.int .i64 ht, .int .i64 o, .int .i64 q, .string x, .string y, .string z, .bool ag] 55)).alloc (.cells #[.int .i64 ht, .int .i64 o, .int .i64 q, .string x, .string y, .string z, .bool ag] 55)) = .ok v' w') := hrun
            simp only [World.size_alloc] at HRUN
            have HN : Hid (Tk w w.heap.size v' u10 (gone o t true (ms.take (k + 1))) (left o t true (ms.take (k + 1))) w') := by
              unfold Hid
              rw [e1, e2]
              exact htk
            clear hrun htk hal hal2 HS e1 e2 hh p4 p6
            go_wp2_with (at_builtin; refine cpr.wpList_append_run rfl _ _ 25 25 rfl _ _ _ rfl rfl HRUN.out ?_)
            go_wp2
            go_roundw
            case rel => exact ⟨k + 1, by omega, by go_num, HN⟩
            case measure => simp [intOf]; omega
          · have q3 : decide (ht < t) = false := by simpa using p5
            have p4 := p2
            have p6 := p5
            have hh : hit o t true ⟨ht, o, ⟨q, x, y, z, ag⟩⟩ = false := by simp [hit, p4, p6]
            obtain ⟨e1, e2⟩ := both_no HG.out hh
            have hal : Below wr.heap.size wr (wr.alloc (.cells #[.int .i64 ht, .int .i64 o, .int .i64 q, .string x, .string y, .string z, .bool ag] 55)) := (Below.refl _ _).alloc (Nat.le_refl _) _
            have hal2 : Below (wr.alloc (.cells #[.int .i64 ht, .int .i64 o, .int .i64 q, .string x, .string y, .string z, .bool ag] 55)).heap.size (wr.alloc (.cells #[.int .i64 ht, .int .i64 o, .int .i64 q, .string x, .string y, .string z, .bool ag] 55)) ((wr.alloc (.cells #[.int .i64 ht, .int .i64 o, .int .i64 q, .string x, .string y, .string z, .bool ag] 55)).alloc (.cells #[.int .i64 ht, .int .i64 o, .int .i64 q, .string x, .string y, .string z, .bool ag] 55)) := (Below.refl _ _).alloc (Nat.le_refl _) _
            have hlen : (left o t true (ms.take k)).length ≤ 1048576 := by have := left_le o t true (ms.take k); rw [List.length_take] at this; omega
            obtain ⟨v', w', hrun, htk⟩ := Tk.app ⟨ht, o, ⟨q, x, y, z, ag⟩⟩ (((HS.out.on hal).on hal2).swap) hlen (bnew (wr.alloc (.cells #[.int .i64 ht, .int .i64 o, .int .i64 q, .string x, .string y, .string z, .bool ag] 55)) _ _) 25
            have HRUN : Hid ((Builtin.append_ #[25, 25] 25 #[u10, .slice (some ⟨(wr.alloc (.cells #[.int .i64 ht, .int .i64 o, .int .i64 q, .string x, .string y, .string z, .bool ag] 55)).heap.size, 0, none⟩) 1 1]).run Try.prog ((wr.alloc (.cells #[.int .i64 ht, .int .i64 o, .int .i64 q, .string x, .string y, .string z, .bool ag] 55)).alloc (.cells #[.int .i64 ht, .int .i64 o, .int .i64 q, .string x, .string y, .string z, .bool ag] 55)) = .ok v' w') := hrun
            simp only [World.size_alloc] at HRUN
            have HN : Hid (Tk w w.heap.size u9 v' (gone o t true (ms.take (k + 1))) (left o t true (ms.take (k + 1))) w') := by
              unfold Hid
              rw [e1, e2]
              exact htk.swap
            clear hrun htk hal hal2 HS e1 e2 hh p4 p6
            go_wp2_with (at_builtin; refine cpr.wpList_append_run rfl _ _ 25 25 rfl _ _ _ rfl rfl HRUN.out ?_)
            go_wp2
            go_roundw
            case rel => exact ⟨k + 1, by omega, by go_num, HN⟩
            case measure => simp [intOf]; omega
      · have q1 : (ho == o) = false := by simpa using p1
        have p3 := p1
        have hh : hit o t true ⟨ht, ho, ⟨q, x, y, z, ag⟩⟩ = false := by simp [hit, p3]
        obtain ⟨e1, e2⟩ := both_no HG.out hh
        have hal : Below wr.heap.size wr (wr.alloc (.cells #[.int .i64 ht, .int .i64 ho, .int .i64 q, .string x, .string y, .string z, .bool ag] 55)) := (Below.refl _ _).alloc (Nat.le_refl _) _
        have hal2 : Below (wr.alloc (.cells #[.int .i64 ht, .int .i64 ho, .int .i64 q, .string x, .string y, .string z, .bool ag] 55)).heap.size (wr.alloc (.cells #[.int .i64 ht, .int .i64 ho, .int .i64 q, .string x, .string y, .string z, .bool ag] 55)) ((wr.alloc (.cells #[.int .i64 ht, .int .i64 ho, .int .i64 q, .string x, .string y, .string z, .bool ag] 55)).alloc (.cells #[.int .i64 ht, .int .i64 ho, .int .i64 q, .string x, .string y, .string z, .bool ag] 55)) := (Below.refl _ _).alloc (Nat.le_refl _) _
        have hlen : (left o t true (ms.take k)).length ≤ 1048576 := by have := left_le o t true (ms.take k); rw [List.length_take] at this; omega
        obtain ⟨v', w', hrun, htk⟩ := Tk.app ⟨ht, ho, ⟨q, x, y, z, ag⟩⟩ (((HS.out.on hal).on hal2).swap) hlen (bnew (wr.alloc (.cells #[.int .i64 ht, .int .i64 ho, .int .i64 q, .string x, .string y, .string z, .bool ag] 55)) _ _) 25
        have HRUN : Hid ((Builtin.append_ #[25, 25] 25 #[u10, .slice (some ⟨(wr.alloc (.cells #[.int .i64 ht, .int .i64 ho, .int .i64 q, .string x, .string y, .string z, .bool ag] 55)).heap.size, 0, none⟩) 1 1]).run Try.prog ((wr.alloc (.cells #[.int .i64 ht, .int .i64 ho, .int .i64 q, .string x, .string y, .string z, .bool ag] 55)).alloc (.cells #[.int .i64 ht, .int .i64 ho, .int .i64 q, .string x, .string y, .string z, .bool ag] 55)) = .ok v' w') := hrun
        simp only [World.size_alloc] at HRUN
        have HN : Hid (Tk w w.heap.size u9 v' (gone o t true (ms.take (k + 1))) (left o t true (ms.take (k + 1))) w') := by
          unfold Hid
          rw [e1, e2]
          exact htk.swap
        clear hrun htk hal hal2 HS e1 e2 hh p3
        go_wp2_with (at_builtin; refine cpr.wpList_append_run rfl _ _ 25 25 rfl _ _ _ rfl rfl HRUN.out ?_)
        go_wp2
        go_roundw
        case rel => exact ⟨k + 1, by omega, by go_num, HN⟩
        case measure => simp [intOf]; omega
    · obtain rfl : k = ms.length := by omega
      rw [List.take_length] at hst
      have HF : Hid (Tk w w.heap.size u9 u10 (gone o t true ms) (left o t true ms) wr) := hst.out
      obtain ⟨bx, bf⟩ := HBF.out wr hbel
      obtain ⟨ub, uc, rfl⟩ := hst.out.au.form
      obtain ⟨vb, vc, rfl⟩ := hst.out.av.form
      clear hst
      go_wp2
      go_ret
      exact ⟨_, _, _, rfl, HF.out, rfl⟩

set_option maxRecDepth 100000 in
set_option maxHeartbeats 2000000 in
theorem impl_take_false (hb : Nat) (v0 : Value) (nm : ByteArray) (nx : Int) (ms : List flH.Hd) (b0 bc : Nat) (o t : Int) (w : World) (hml : ms.length ≤ 1048576) (hX : w.heap[hb]? = some (.cells #[v0, .string nm, .int .i64 nx, .slice (some ⟨b0, 0, none⟩) ms.length bc] 82 (0, 0))) (hB : Row flH.c 7 w w.heap.size (some ⟨b0, 0, none⟩) ms) :
    Calls Try.prog 23 #[.pointer (some ⟨hb, 0, none⟩), .int .i64 o, .int .i64 t, .bool false] w fun e w' => ∃ v u wr, e = .returned v ∧ Tk w w.heap.size v u (gone o t false ms) (left o t false ms) wr ∧ w' = wr.setCell ⟨hb, 3, none⟩ u := by
  have hbl : hb < w.heap.size := (Array.getElem?_eq_some_iff.1 hX).1
  have bx : w.cell? ⟨hb, 3, none⟩ = some (.slice (some ⟨b0, 0, none⟩) ms.length bc) := bcell hX rfl
  have HBF : Hid (∀ V, Below w.heap.size w V → V.cell? ⟨hb, 3, none⟩ = some (.slice (some ⟨b0, 0, none⟩) ms.length bc) ∧ V.frozen? ⟨hb, 3, none⟩ = false) := fun V hV => ⟨bcell (bstay hX hV hbl) rfl, bfree (bstay hX hV hbl) 3⟩
  have HC : Hid (∀ V, Below w.heap.size w V → ∀ (i : Nat) (e : flH.Hd), ms[i]? = some e → ∀ (j : Nat) (v : Value), (flH.c e)[j]? = some v → V.cell? ⟨b0, i * 7 + j, none⟩ = some v) := fun V hV i e he j v hv => by
    rcases hB.inn hV with h | ⟨b, off, hb, hlt, hc⟩
    · rw [h] at he; simp at he
    · cases hb
      have := hc i e he j v hv
      rwa [Nat.zero_add] at this
  have HT0 : Hid (Tk w w.heap.size (.slice none 0 0) (.slice none 0 0) (gone o t false (ms.take 0)) (left o t false (ms.take 0)) w) := ⟨Below.refl _ _, Nat.le_refl _, .inl ⟨by simp [gone], _, rfl, .inl rfl⟩, .inl ⟨by simp [left], _, rfl, .inl rfl⟩, fun g h1 h2 => by simp [Value.ownBlock] at h1, fun g h1 => by simp [Value.ownBlock] at h1, fun g h1 => by simp [Value.ownBlock] at h1⟩
  clear hX hB
  go_enter Try.func23, Try.ntmps23
  go_wp2
  clear bx
  go_loopw [9, 10, 18] (fun v u y wr => ∃ k : Nat, k ≤ ms.length ∧ y = .int .i64 k ∧ Hid (Tk w w.heap.size v u (gone o t false (ms.take k)) (left o t false (ms.take k)) wr)) (fun _ _ y _ => ms.length - (intOf y).toNat)
  case atStart => exact ⟨0, Nat.zero_le _, rfl, HT0⟩
  case round =>
    obtain ⟨k, hk, rfl, hst⟩ := hrel
    clear HT0
    have hbel := hst.out.bel
    have hlo := hst.out.lo
    by_cases hkl : k < ms.length
    · have i2 : (k : Int) < (ms.length : Int) := by omega
      have HG : Hid (ms[k]? = some ms[k]) := List.getElem?_eq_getElem hkl
      obtain ⟨⟨ht, ho, ⟨q, x, y, z, ag⟩⟩, he⟩ : ∃ e, ms[k] = e := ⟨_, rfl⟩
      rw [he] at HG
      have cs := HC.out wr hbel k _ HG.out
      have c0 : wr.cell? ⟨b0, k * 7, none⟩ = some (.int .i64 ht) := cs 0 _ rfl
      have c1 : wr.cell? ⟨b0, k * 7 + 1, none⟩ = some (.int .i64 ho) := cs 1 _ rfl
      have c2 : wr.cell? ⟨b0, k * 7 + 2, none⟩ = some (.int .i64 q) := cs 2 _ rfl
      have c3 : wr.cell? ⟨b0, k * 7 + 3, none⟩ = some (.string x) := cs 3 _ rfl
      have c4 : wr.cell? ⟨b0, k * 7 + 4, none⟩ = some (.string y) := cs 4 _ rfl
      have c5 : wr.cell? ⟨b0, k * 7 + 5, none⟩ = some (.string z) := cs 5 _ rfl
      have c6 : wr.cell? ⟨b0, k * 7 + 6, none⟩ = some (.bool ag) := cs 6 _ rfl
      have HS : Hid (Tk w w.heap.size u9 u10 (gone o t false (ms.take k)) (left o t false (ms.take k)) wr) := hst.out
      clear he cs hst
      by_cases p1 : ho = o
      · obtain rfl : o = ho := p1.symm
        by_cases p2 : ht = t
        · obtain rfl : t = ht := p2.symm
          have hh : hit o t false ⟨t, o, ⟨q, x, y, z, ag⟩⟩ = true := by simp [hit]
          obtain ⟨e1, e2⟩ := both_yes HG.out hh
          have hal : Below wr.heap.size wr (wr.alloc (.cells #[.int .i64 t, .int .i64 o, .int .i64 q, .string x, .string y, .string z, .bool ag] 55)) := (Below.refl _ _).alloc (Nat.le_refl _) _
          have hal2 : Below (wr.alloc (.cells #[.int .i64 t, .int .i64 o, .int .i64 q, .string x, .string y, .string z, .bool ag] 55)).heap.size (wr.alloc (.cells #[.int .i64 t, .int .i64 o, .int .i64 q, .string x, .string y, .string z, .bool ag] 55)) ((wr.alloc (.cells #[.int .i64 t, .int .i64 o, .int .i64 q, .string x, .string y, .string z, .bool ag] 55)).alloc (.cells #[.int .i64 t, .int .i64 o, .int .i64 q, .string x, .string y, .string z, .bool ag] 55)) := (Below.refl _ _).alloc (Nat.le_refl _) _
          have hlen : (gone o t false (ms.take k)).length ≤ 1048576 := by have := gone_le o t false (ms.take k); rw [List.length_take] at this; omega
          obtain ⟨v', w', hrun, htk⟩ := Tk.app ⟨t, o, ⟨q, x, y, z, ag⟩⟩ (((HS.out.on hal).on hal2)) hlen (bnew (wr.alloc (.cells #[.int .i64 t, .int .i64 o, .int .i64 q, .string x, .string y, .string z, .bool ag] 55)) _ _) 25
          have HRUN : Hid ((Builtin.append_ #[25, 25] 25 #[u9, .slice (some ⟨(wr.alloc (.cells #[.int .i64 t, .int .i64 o, .int .i64 q, .string x, .string y, .string z, .bool ag] 55)).heap.size, 0, none⟩) 1 1]).run Try.prog ((wr.alloc (.cells #[.int .i64 t, .int .i64 o, .int .i64 q, .string x, .string y, .string z, .bool ag] 55)).alloc (.cells #[.int .i64 t, .int .i64 o, .int .i64 q, .string x, .string y, .string z, .bool ag] 55)) = .ok v' w') := hrun
          simp only [World.size_alloc] at HRUN
          have HN : Hid (Tk w w.heap.size v' u10 (gone o t false (ms.take (k + 1))) (left o t false (ms.take (k + 1))) w') := by
            unfold Hid
            rw [e1, e2]
            exact htk
          clear hrun htk hal hal2 HS e1 e2 hh 
          go_wp2_with (at_builtin; refine cpr.wpList_append_run rfl _ _ 25 25 rfl _ _ _ rfl rfl HRUN.out ?_)
          go_wp2
          go_roundw
          case rel => exact ⟨k + 1, by omega, by go_num, HN⟩
          case measure => simp [intOf]; omega
        · have q2 : (ht == t) = false := by simpa using p2
          have p4 := p2
          have hh : hit o t false ⟨ht, o, ⟨q, x, y, z, ag⟩⟩ = false := by simp [hit, p4]
          obtain ⟨e1, e2⟩ := both_no HG.out hh
          have hal : Below wr.heap.size wr (wr.alloc (.cells #[.int .i64 ht, .int .i64 o, .int .i64 q, .string x, .string y, .string z, .bool ag] 55)) := (Below.refl _ _).alloc (Nat.le_refl _) _
          have hal2 : Below (wr.alloc (.cells #[.int .i64 ht, .int .i64 o, .int .i64 q, .string x, .string y, .string z, .bool ag] 55)).heap.size (wr.alloc (.cells #[.int .i64 ht, .int .i64 o, .int .i64 q, .string x, .string y, .string z, .bool ag] 55)) ((wr.alloc (.cells #[.int .i64 ht, .int .i64 o, .int .i64 q, .string x, .string y, .string z, .bool ag] 55)).alloc (.cells #[.int .i64 ht, .int .i64 o, .int .i64 q, .string x, .string y, .string z, .bool ag] 55)) := (Below.refl _ _).alloc (Nat.le_refl _) _
          have hlen : (left o t false (ms.take k)).length ≤ 1048576 := by have := left_le o t false (ms.take k); rw [List.length_take] at this; omega
          obtain ⟨v', w', hrun, htk⟩ := Tk.app ⟨ht, o, ⟨q, x, y, z, ag⟩⟩ (((HS.out.on hal).on hal2).swap) hlen (bnew (wr.alloc (.cells #[.int .i64 ht, .int .i64 o, .int .i64 q, .string x, .string y, .string z, .bool ag] 55)) _ _) 25
          have HRUN : Hid ((Builtin.append_ #[25, 25] 25 #[u10, .slice (some ⟨(wr.alloc (.cells #[.int .i64 ht, .int .i64 o, .int .i64 q, .string x, .string y, .string z, .bool ag] 55)).heap.size, 0, none⟩) 1 1]).run Try.prog ((wr.alloc (.cells #[.int .i64 ht, .int .i64 o, .int .i64 q, .string x, .string y, .string z, .bool ag] 55)).alloc (.cells #[.int .i64 ht, .int .i64 o, .int .i64 q, .string x, .string y, .string z, .bool ag] 55)) = .ok v' w') := hrun
          simp only [World.size_alloc] at HRUN
          have HN : Hid (Tk w w.heap.size u9 v' (gone o t false (ms.take (k + 1))) (left o t false (ms.take (k + 1))) w') := by
            unfold Hid
            rw [e1, e2]
            exact htk.swap
          clear hrun htk hal hal2 HS e1 e2 hh p4
          go_wp2_with (at_builtin; refine cpr.wpList_append_run rfl _ _ 25 25 rfl _ _ _ rfl rfl HRUN.out ?_)
          go_wp2
          go_roundw
          case rel => exact ⟨k + 1, by omega, by go_num, HN⟩
          case measure => simp [intOf]; omega
      · have q1 : (ho == o) = false := by simpa using p1
        have p3 := p1
        have hh : hit o t false ⟨ht, ho, ⟨q, x, y, z, ag⟩⟩ = false := by simp [hit, p3]
        obtain ⟨e1, e2⟩ := both_no HG.out hh
        have hal : Below wr.heap.size wr (wr.alloc (.cells #[.int .i64 ht, .int .i64 ho, .int .i64 q, .string x, .string y, .string z, .bool ag] 55)) := (Below.refl _ _).alloc (Nat.le_refl _) _
        have hal2 : Below (wr.alloc (.cells #[.int .i64 ht, .int .i64 ho, .int .i64 q, .string x, .string y, .string z, .bool ag] 55)).heap.size (wr.alloc (.cells #[.int .i64 ht, .int .i64 ho, .int .i64 q, .string x, .string y, .string z, .bool ag] 55)) ((wr.alloc (.cells #[.int .i64 ht, .int .i64 ho, .int .i64 q, .string x, .string y, .string z, .bool ag] 55)).alloc (.cells #[.int .i64 ht, .int .i64 ho, .int .i64 q, .string x, .string y, .string z, .bool ag] 55)) := (Below.refl _ _).alloc (Nat.le_refl _) _
        have hlen : (left o t false (ms.take k)).length ≤ 1048576 := by have := left_le o t false (ms.take k); rw [List.length_take] at this; omega
        obtain ⟨v', w', hrun, htk⟩ := Tk.app ⟨ht, ho, ⟨q, x, y, z, ag⟩⟩ (((HS.out.on hal).on hal2).swap) hlen (bnew (wr.alloc (.cells #[.int .i64 ht, .int .i64 ho, .int .i64 q, .string x, .string y, .string z, .bool ag] 55)) _ _) 25
        have HRUN : Hid ((Builtin.append_ #[25, 25] 25 #[u10, .slice (some ⟨(wr.alloc (.cells #[.int .i64 ht, .int .i64 ho, .int .i64 q, .string x, .string y, .string z, .bool ag] 55)).heap.size, 0, none⟩) 1 1]).run Try.prog ((wr.alloc (.cells #[.int .i64 ht, .int .i64 ho, .int .i64 q, .string x, .string y, .string z, .bool ag] 55)).alloc (.cells #[.int .i64 ht, .int .i64 ho, .int .i64 q, .string x, .string y, .string z, .bool ag] 55)) = .ok v' w') := hrun
        simp only [World.size_alloc] at HRUN
        have HN : Hid (Tk w w.heap.size u9 v' (gone o t false (ms.take (k + 1))) (left o t false (ms.take (k + 1))) w') := by
          unfold Hid
          rw [e1, e2]
          exact htk.swap
        clear hrun htk hal hal2 HS e1 e2 hh p3
        go_wp2_with (at_builtin; refine cpr.wpList_append_run rfl _ _ 25 25 rfl _ _ _ rfl rfl HRUN.out ?_)
        go_wp2
        go_roundw
        case rel => exact ⟨k + 1, by omega, by go_num, HN⟩
        case measure => simp [intOf]; omega
    · obtain rfl : k = ms.length := by omega
      rw [List.take_length] at hst
      have HF : Hid (Tk w w.heap.size u9 u10 (gone o t false ms) (left o t false ms) wr) := hst.out
      obtain ⟨bx, bf⟩ := HBF.out wr hbel
      obtain ⟨ub, uc, rfl⟩ := hst.out.au.form
      obtain ⟨vb, vc, rfl⟩ := hst.out.av.form
      clear hst
      go_wp2
      go_ret
      exact ⟨_, _, _, rfl, HF.out, rfl⟩
end Go.Proofs.Ytnlcmheahihlpaa.qti
