/- The specification's draw of a name. -/
import Derived.Test.YtnlcmheahihlpaaQw12
import Derived.Test.YtnlcmheahihlpaaQw13
import Derived.Maps.AppendAt
import Derived.Test.YtnlcmheahihlpaaDrawBase

/- The specification's draw of a queue: what stands on the way, and its steps. -/
namespace Go.Proofs.Ytnlcmheahihlpaa.dtq
open Go.ChangeShapes Go.WideShapes Go.ChangeAt Go.RowKit Go.Proofs.Ytnlcmheahihlpaa.fl Go.Proofs.Ytnlcmheahihlpaa.dw Go.Proofs.Ytnlcmheahihlpaa.qsp Go.Proofs.Ytnlcmheahihlpaa.dlq
set_option linter.unusedVariables false

def res4 (W : World) (b : Nat) (x0 x1 x2 x3 : Value) : World := (((W.setCell ⟨b, 0, none⟩ x0).setCell ⟨b, 1, none⟩ x1).setCell ⟨b, 2, none⟩ x2).setCell ⟨b, 3, none⟩ x3
/-- a cell set in a block of another type -/
theorem own_cell {W : World} {B b o n s : Nat} {U V : TypeId} {v u : Value} {xs : List Value} {cur : Array Value} (h : W.ownsRow B U s v n xs) (hb : W.heap[b]? = some (.cells cur V (0, 0))) (hUV : U ≠ V) : (W.setCell ⟨b, o, none⟩ u).ownsRow B U s v n xs := by
  refine h.kept (row := some b) ⟨rfl, rfl, rfl, by simp, fun k hk hne => Below.heap_setCell _ _ _ _ (fun e => hne (by rw [e]))⟩ ?_
  obtain ⟨_, ⟨rfl, _⟩ | ⟨g, cap, cur', rfl, h2, h3, _⟩⟩ := h
  · exact .inl rfl
  · refine .inr (fun e => ?_)
    have e2 : g = b := by simpa [Value.ownBlock] using e
    subst e2
    rw [hb] at h3
    simp at h3
    exact hUV h3.2.symm
theorem res4_at {W : World} {b : Nat} {T : TypeId} {y0 y1 y2 y3 : Value} (h : W.heap[b]? = some (.cells #[y0, y1, y2, y3] T (0, 0))) (x0 x1 x2 x3 : Value) : (res4 W b x0 x1 x2 x3).heap[b]? = some (.cells #[x0, x1, x2, x3] T (0, 0)) := by
  have := bset (bset (bset (bset h 0 x0) 1 x1) 2 x2) 3 x3
  simp only [List.setIfInBounds_toArray, List.set_cons_zero, List.set_cons_succ] at this
  exact this
theorem res4_off {W : World} {b g : Nat} {o : Obj} (h : W.heap[g]? = some o) (hne : g ≠ b) (x0 x1 x2 x3 : Value) : (res4 W b x0 x1 x2 x3).heap[g]? = some o := boff (boff (boff (boff h b 0 x0 hne) b 1 x1 hne) b 2 x2 hne) b 3 x3 hne
theorem own_res4 {W : World} {B b n s : Nat} {U V : TypeId} {v : Value} {xs : List Value} {y0 y1 y2 y3 : Value} (h : W.ownsRow B U s v n xs) (hb : W.heap[b]? = some (.cells #[y0, y1, y2, y3] V (0, 0))) (hUV : U ≠ V) (x0 x1 x2 x3 : Value) : (res4 W b x0 x1 x2 x3).ownsRow B U s v n xs :=
  own_cell (own_cell (own_cell (own_cell h hb hUV) (bset hb 0 x0) hUV) (bset (bset hb 0 x0) 1 x1) hUV) (bset (bset (bset hb 0 x0) 1 x1) 2 x2) hUV
theorem res4_on {W : World} {b : Nat} (x0 x1 x2 x3 : Value) : On b W (res4 W b x0 x1 x2 x3) := ((((On.refl b W).setCell 0 x0).setCell 1 x1).setCell 2 x2).setCell 3 x3
theorem tq_cell {W : World} {B b o : Nat} {u : Value} {cur : Array Value} {es : List flM.Ms} {ms : List flH.Hd} {ga ha : Option Addr} {cg ch : Nat} (h : Tq B W es ms ga cg ha ch) (hb : W.heap[b]? = some (.cells cur 27 (0, 0))) : Tq B (W.setCell ⟨b, o, none⟩ u) es ms ga cg ha ch :=
  ⟨own_cell h.oe hb (by decide), hl_map h.oh fun h => own_cell h hb (by decide)⟩
theorem tq_res4 {W : World} {B b : Nat} {y0 y1 y2 y3 : Value} {es : List flM.Ms} {ms : List flH.Hd} {ga ha : Option Addr} {cg ch : Nat} (h : Tq B W es ms ga cg ha ch) (hb : W.heap[b]? = some (.cells #[y0, y1, y2, y3] 27 (0, 0))) (x0 x1 x2 x3 : Value) : Tq B (res4 W b x0 x1 x2 x3) es ms ga cg ha ch :=
  ⟨own_res4 h.oe hb (by decide) .., hl_map h.oh fun h => own_res4 h hb (by decide) ..⟩
/-- what stands on the way -/
structure St (p : Nat) (a : Option Addr) (len cap : Nat) (w : World) (sn : ByteArray) (nx : Int) (es : List flM.Ms) (ms : List flH.Hd) (ga : Option Addr) (cg : Nat) (ha : Option Addr) (ch : Nat) (W : World) : Prop where
  rb : W.heap[w.heap.size]? = some (.cells #[.string ⟨#[]⟩, .int .i64 0, .slice none 0 0, .slice none 0 0] 27 (0, 0))
  sb : W.heap[w.heap.size + 1]? = some (.cells #[.string sn, .int .i64 nx, .slice ga es.length cg, .slice ha ms.length ch] 27 (0, 0))
  dr : Tq (w.heap.size + 2) W es ms ga cg ha ch
  cur : Cur W p a len cap
  on : On p w W
  hp : p < w.heap.size
/-- a queue that a step answers -/
def Nw (w : World) (j : Nat) (v : Value) (W : World) : Prop := ∃ (sn : ByteArray) (nx : Int) (es : List flM.Ms) (ms : List flH.Hd) (ga : Option Addr) (cg : Nat) (ha : Option Addr) (ch : Nat), v = .agg #[.string sn, .int .i64 nx, .slice ga es.length cg, .slice ha ms.length ch] ∧ (Sm (j + 1) sn es ms ∧ 1 ≤ nx ∧ nx ≤ j + 2) ∧ Tq (w.heap.size + 2) W es ms ga cg ha ch
/-- the same, stored in block nb -/
def Fin (w : World) (j nb : Nat) (W : World) : Prop := ∃ (sn : ByteArray) (nx : Int) (es : List flM.Ms) (ms : List flH.Hd) (ga : Option Addr) (cg : Nat) (ha : Option Addr) (ch : Nat), W.heap[nb]? = some (.cells #[.string sn, .int .i64 nx, .slice ga es.length cg, .slice ha ms.length ch] 27 (0, 0)) ∧ (Sm (j + 1) sn es ms ∧ 1 ≤ nx ∧ nx ≤ j + 2) ∧ Tq (w.heap.size + 2) W es ms ga cg ha ch
structure G where
  x : Nat
  y : Nat
  a : Nat
  t : ByteArray
  u : ByteArray
  c : ByteArray
  n : Int
  v : Value
  m : Value
  b : Bool
section
variable {p : Nat} {a : Option Addr} {len cap : Nat} {w W W' : World} {sn : ByteArray} {nx : Int} {es : List flM.Ms} {ms : List flH.Hd} {ga : Option Addr} {cg : Nat} {ha : Option Addr} {ch : Nat} {nb j c k : Nat} {pre : G → Nat → World → Prop} {g g' : G}
theorem St.size (h : St p a len cap w sn nx es ms ga cg ha ch W) : w.heap.size + 2 ≤ W.heap.size := (Array.getElem?_eq_some_iff.1 h.sb).1
theorem st_block {b : Nat} {o : Obj} (h : W.heap[b]? = some o) (hb : On p W W') (hne : b ≠ p) : W'.heap[b]? = some o := (hb.block b (Array.getElem?_eq_some_iff.1 h).1 (fun e => hne (Option.some.inj e))).trans h
theorem St.draw (h : St p a len cap w sn nx es ms ga cg ha ch W) (hc : Cur W' p a len cap) (hb : On p W W') : St p a len cap w sn nx es ms ga cg ha ch W' := by
  have hp := h.hp
  exact ⟨st_block h.rb hb (by omega), st_block h.sb hb (by omega), h.dr.on hb (by omega), hc, h.on.trans hb, hp⟩
theorem St.step (h : St p a len cap w sn nx es ms ga cg ha ch W) (hb : Below W.heap.size W W') : St p a len cap w sn nx es ms ga cg ha ch W' :=
  ⟨bstay h.rb hb (Array.getElem?_eq_some_iff.1 h.rb).1, bstay h.sb hb (Array.getElem?_eq_some_iff.1 h.sb).1, h.dr.below hb, h.cur.below hb, h.on.trans (On.of_below hb), h.hp⟩
theorem St.alloc (h : St p a len cap w sn nx es ms ga cg ha ch W) (o : Obj) : St p a len cap w sn nx es ms ga cg ha ch (W.alloc o) := h.step ((Below.refl _ _).alloc (Nat.le_refl _) _)
theorem st_0 (hc : Cur w p a len cap) : St p a len cap w ⟨#[113]⟩ 1 [] [] none 0 none 0 ((w.alloc (.cells #[.string ⟨#[]⟩, .int .i64 0, .slice none 0 0, .slice none 0 0] 27)).alloc (.cells #[.string ⟨#[113]⟩, .int .i64 1, .slice none 0 0, .slice none 0 0] 27)) := by
  refine ⟨bold (bnew w _ _) _, ?_, nil_tq _ _, (hc.alloc _).alloc _, ((On.refl _ _).alloc _).alloc _, hc.lt⟩
  have := bnew (w.alloc (.cells #[.string ⟨#[]⟩, .int .i64 0, .slice none 0 0, .slice none 0 0] 27)) #[.string ⟨#[113]⟩, .int .i64 1, .slice none 0 0, .slice none 0 0] 27
  rwa [World.size_alloc] at this
theorem St.res (h : St p a len cap w sn nx es ms ga cg ha ch W) {y0 y1 y2 y3 : Value} (hb : W.heap[nb]? = some (.cells #[y0, y1, y2, y3] 27 (0, 0))) (hn : w.heap.size + 2 ≤ nb) (x0 x1 x2 x3 : Value) : St p a len cap w sn nx es ms ga cg ha ch (res4 W nb x0 x1 x2 x3) := by
  have hp := h.hp
  exact ⟨res4_off h.rb (by omega) .., res4_off h.sb (by omega) .., tq_res4 h.dr hb .., h.cur.grown (row := some nb) (res4_on ..) (fun k hk => by have := Option.some.inj hk; omega), h.on.grown (row := some nb) (res4_on ..) (fun k hk => by have := Option.some.inj hk; omega), hp⟩
/-- the queue itself is set anew -/
theorem St.put (h : St p a len cap w sn nx es ms ga cg ha ch W) {sn' : ByteArray} {nx' : Int} {es' : List flM.Ms} {ms' : List flH.Hd} {ga' : Option Addr} {cg' : Nat} {ha' : Option Addr} {ch' : Nat} (hd : Tq (w.heap.size + 2) W es' ms' ga' cg' ha' ch') :
    St p a len cap w sn' nx' es' ms' ga' cg' ha' ch' (res4 W (w.heap.size + 1) (.string sn') (.int .i64 nx') (.slice ga' es'.length cg') (.slice ha' ms'.length ch')) := by
  have hp := h.hp
  exact ⟨res4_off h.rb (by omega) .., res4_at h.sb .., tq_res4 hd h.sb .., h.cur.grown (row := some (w.heap.size + 1)) (res4_on ..) (fun k hk => by have := Option.some.inj hk; omega), h.on.grown (row := some (w.heap.size + 1)) (res4_on ..) (fun k hk => by have := Option.some.inj hk; omega), hp⟩
/-- a step's region: c effects and then the store into the block nb -/
structure Sx (p : Nat) (a : Option Addr) (len cap : Nat) (w : World) (sn : ByteArray) (nx : Int) (es : List flM.Ms) (ms : List flH.Hd) (ga : Option Addr) (cg : Nat) (ha : Option Addr) (ch : Nat) (nb j c : Nat) (pre : G → Nat → World → Prop) (g : G) (k : Nat) (W : World) : Prop where
  st : St p a len cap w sn nx es ms ga cg ha ch W
  pre : pre g k W
  old : k ≤ c → W.heap[nb]? = some (.cells #[.string sn, .int .i64 nx, .slice ga es.length cg, .slice ha ms.length ch] 27 (0, 0))
  nw : k = c → Nw w j g.v W
  fin : k = c + 1 → Fin w j nb W
theorem Sx.draw (h : Sx p a len cap w sn nx es ms ga cg ha ch nb j c pre g k W) (hk : k + 1 < c) (hn : p < nb) (hc : Cur W' p a len cap) (hb : On p W W') (hp : pre g' (k + 1) W') : Sx p a len cap w sn nx es ms ga cg ha ch nb j c pre g' (k + 1) W' :=
  ⟨h.st.draw hc hb, hp, fun _ => st_block (h.old (by omega)) hb (by omega), fun e => (by omega), fun e => (by omega)⟩
theorem Sx.step (h : Sx p a len cap w sn nx es ms ga cg ha ch nb j c pre g k W) (hk : k + 1 < c) (hb : Below W.heap.size W W') (hp : pre g' (k + 1) W') : Sx p a len cap w sn nx es ms ga cg ha ch nb j c pre g' (k + 1) W' :=
  ⟨h.st.step hb, hp, fun _ => bstay (h.old (by omega)) hb (Array.getElem?_eq_some_iff.1 (h.old (by omega))).1, fun e => (by omega), fun e => (by omega)⟩
theorem Sx.last (h : Sx p a len cap w sn nx es ms ga cg ha ch nb j c pre g k W) (hk : k + 1 = c) (hb : Below W.heap.size W W') (hn : Nw w j g'.v W') (hp : pre g' (k + 1) W') : Sx p a len cap w sn nx es ms ga cg ha ch nb j c pre g' (k + 1) W' :=
  ⟨h.st.step hb, hp, fun _ => bstay (h.old (by omega)) hb (Array.getElem?_eq_some_iff.1 (h.old (by omega))).1, fun _ => hn, fun e => (by omega)⟩
theorem Sx.sto (h : Sx p a len cap w sn nx es ms ga cg ha ch nb j c pre g c W) (hn : w.heap.size + 2 ≤ nb) (hp : ∀ W', pre g (c + 1) W') : ∃ (sn' : ByteArray) (nx' : Int) (es' : List flM.Ms) (ms' : List flH.Hd) (ga' : Option Addr) (cg' : Nat) (ha' : Option Addr) (ch' : Nat), g.v = .agg #[.string sn', .int .i64 nx', .slice ga' es'.length cg', .slice ha' ms'.length ch'] ∧
    (W.cell? ⟨nb, 0, none⟩ = some (.string sn) ∧ W.cell? ⟨nb, 1, none⟩ = some (.int .i64 nx) ∧ W.cell? ⟨nb, 2, none⟩ = some (.slice ga es.length cg) ∧ W.cell? ⟨nb, 3, none⟩ = some (.slice ha ms.length ch)) ∧ (∀ i, W.frozen? ⟨nb, i, none⟩ = false) ∧
    Sx p a len cap w sn nx es ms ga cg ha ch nb j c pre g (c + 1) (res4 W nb (.string sn') (.int .i64 nx') (.slice ga' es'.length cg') (.slice ha' ms'.length ch')) := by
  obtain ⟨sn', nx', es', ms', ga', cg', ha', ch', hv, hsm, hd⟩ := h.nw rfl
  have ho := h.old (Nat.le_refl _)
  exact ⟨sn', nx', es', ms', ga', cg', ha', ch', hv, ⟨bcell ho rfl, bcell ho rfl, bcell ho rfl, bcell ho rfl⟩, fun i => bfree ho i, h.st.res ho hn .., hp _, fun e => (by omega), fun e => (by omega), fun _ => ⟨sn', nx', es', ms', ga', cg', ha', ch', res4_at ho .., hsm, tq_res4 hd ho ..⟩⟩
theorem St.pushQ (h : St p a len cap w sn nx es ms ga cg ha ch W) (hsm : Sm j sn es ms) (hn : 1 ≤ nx ∧ nx ≤ j + 1) (hj : j ≤ 100) (x k b : ByteArray) (hx : x.size ≤ 100 ∧ k.size ≤ 100 ∧ b.size ≤ 3001) : Calls Try.prog 15 #[.agg #[.string sn, .int .i64 nx, .slice ga es.length cg, .slice ha ms.length ch], .string x, .string k, .string b] W fun e w' => (∃ v b, e = .returned (.tuple #[v, .bool b]) ∧ Nw w j v w') ∧ Below W.heap.size W w' := by
  have U := h.dr.use
  refine (qps.spec_put sn nx es ms ga ha cg ch x k b W (hsm.fit (by omega)) U.ny U.nh (by omega) (by omega) (by omega) U.hy U.hh).mono ?_
  rintro e w' ⟨sa, ce, sb, cb, rfl, h1, h2, hb⟩
  have h3 := @next_le sn nx es ms x k b
  exact ⟨⟨_, _, rfl, sn, _, _, ms, sa, ce, sb, cb, rfl, ⟨hsm.push hx, by omega, by omega⟩, (⟨h1, h2⟩ : Tq _ w' _ _ sa ce sb cb).low (by have := h.size; omega)⟩, hb⟩
theorem St.popQ (h : St p a len cap w sn nx es ms ga cg ha ch W) (hsm : Sm j sn es ms) (hn : 1 ≤ nx ∧ nx ≤ j + 1) (hj : j ≤ 100) (o t : Int) : Calls Try.prog 18 #[.agg #[.string sn, .int .i64 nx, .slice ga es.length cg, .slice ha ms.length ch], .int .i64 o, .int .i64 t] W fun e w' => (∃ v m b, e = .returned (.tuple #[v, m, .bool b]) ∧ Nw w j v w') ∧ Below W.heap.size W w' := by
  have U := h.dr.use
  refine (U.pop (nx := nx) (hsm.fit (by omega)) o t).mono ?_
  rintro e w' ⟨sa, ce, sb, cb, rfl, h1, h2, hb⟩
  exact ⟨⟨_, _, _, rfl, sn, nx, _, _, sa, ce, sb, cb, rfl, ⟨hsm.pop, by omega, by omega⟩, (⟨h1, h2⟩ : Tq _ w' _ _ sa ce sb cb).low (by have := h.size; omega)⟩, hb⟩
theorem St.retQ (h : St p a len cap w sn nx es ms ga cg ha ch W) (hsm : Sm j sn es ms) (hn : 1 ≤ nx ∧ nx ≤ j + 1) (hj : j ≤ 100) (o t : Int) (al : Bool) : Calls Try.prog 7 #[.agg #[.string sn, .int .i64 nx, .slice ga es.length cg, .slice ha ms.length ch], .int .i64 o, .int .i64 t, .bool al] W fun e w' => (∃ v n, e = .returned (.tuple #[v, .int .i64 n]) ∧ Nw w j v w') ∧ Below W.heap.size W w' := by
  have U := h.dr.use
  refine (qrs.spec_ret sn nx es ms ga ha cg ch o t al W (hsm.fit (by omega)) U.ny U.nh U.hy U.hh).mono ?_
  rintro e w' ⟨sa, ce, sb, cb, rfl, h1, h2, hb⟩
  exact ⟨⟨_, _, rfl, sn, nx, _, _, sa, ce, sb, cb, rfl, ⟨hsm.ret.more (by omega), by omega, by omega⟩, (⟨h1, h2⟩ : Tq _ w' _ _ sa ce sb cb).low (by have := h.size; omega)⟩, hb⟩
theorem own_block {B n s b : Nat} {U V : TypeId} {v : Value} {xs : List Value} {cur : Array Value} (h : W.ownsRow B U s v n xs) (hb : W.heap[b]? = some (.cells cur V (0, 0))) (hUV : U ≠ V) : v.ownBlock ≠ some b := by
  obtain ⟨_, ⟨rfl, _⟩ | ⟨g, cap, cur', rfl, h2, h3, _⟩⟩ := h
  · intro e; cases e
  · intro e
    have e2 : g = b := by simpa [Value.ownBlock] using e
    subst e2
    rw [hb] at h3
    simp at h3
    exact hUV h3.2.symm
theorem own_apart {B B' n n' s s' : Nat} {U V : TypeId} {v v' : Value} {xs xs' : List Value} (h : W.ownsRow B U s v n xs) (h' : W.ownsRow B' V s' v' n' xs') (hUV : U ≠ V) : v.ownBlock = none ∨ v.ownBlock ≠ v'.ownBlock := by
  obtain ⟨_, ⟨rfl, _⟩ | ⟨g, cap, cur', rfl, h2, h3, _⟩⟩ := h'
  · cases hv : v.ownBlock with
    | none => exact .inl rfl
    | some b => exact .inr (fun e => by cases e)
  · exact .inr (own_block h h3 hUV)
theorem cadd {g j : Nat} : (⟨g, 0, none⟩ : Addr).add j = ⟨g, j, none⟩ := by unfold Addr.add; split <;> simp_all
theorem own_slice {B n q : Nat} {T : TypeId} {v : Value} {xs : List Value} (h : W.ownsRow B T n v q xs) : ∃ b c, v = .slice b q c := by
  obtain ⟨_, ⟨rfl, h0⟩ | ⟨g, cap, cur, rfl, _⟩⟩ := h
  · exact ⟨none, 0, by rw [h0]⟩
  · exact ⟨_, cap, rfl⟩
/-- one field of the queue is set anew -/
theorem St.next (h : St p a len cap w sn nx es ms ga cg ha ch W) (z : Int) : St p a len cap w sn z es ms ga cg ha ch (W.setCell ⟨w.heap.size + 1, 1, none⟩ (.int .i64 z)) := by
  have hp := h.hp
  exact ⟨boff h.rb _ _ _ (by omega), bset h.sb 1 _, tq_cell h.dr h.sb, h.cur.grown (row := some (w.heap.size + 1)) (On.setCell (On.refl _ _) 1 _) (fun k hk => by have := Option.some.inj hk; omega), h.on.grown (row := some (w.heap.size + 1)) (On.setCell (On.refl _ _) 1 _) (fun k hk => by have := Option.some.inj hk; omega), hp⟩
theorem St.name (h : St p a len cap w sn nx es ms ga cg ha ch W) (z : ByteArray) : St p a len cap w z nx es ms ga cg ha ch (W.setCell ⟨w.heap.size + 1, 0, none⟩ (.string z)) := by
  have hp := h.hp
  exact ⟨boff h.rb _ _ _ (by omega), bset h.sb 0 _, tq_cell h.dr h.sb, h.cur.grown (row := some (w.heap.size + 1)) (On.setCell (On.refl _ _) 0 _) (fun k hk => by have := Option.some.inj hk; omega), h.on.grown (row := some (w.heap.size + 1)) (On.setCell (On.refl _ _) 0 _) (fun k hk => by have := Option.some.inj hk; omega), hp⟩
/-- one more message -/
theorem St.appQ (h : St p a len cap w sn nx es ms ga cg ha ch W) {gb : Nat} (e : flM.Ms) (hb : W.heap[gb]? = some (.cells #[.int .i64 e.q, .string e.x, .string e.k, .string e.b, .bool e.a] 41 (0, 0))) (hl : es.length ≤ 1000) (t : TypeId) :
    ∃ ga' cg' Y, (Builtin.append_ #[24, 24] t #[.slice ga es.length cg, .slice (some ⟨gb, 0, none⟩) 1 1]).run Try.prog W = .ok (.slice ga' (es.length + 1) cg') Y ∧ (Y.cell? ⟨w.heap.size + 1, 2, none⟩ = some (.slice ga es.length cg) ∧ Y.frozen? ⟨w.heap.size + 1, 2, none⟩ = false) ∧
      St p a len cap w sn nx (es ++ [e]) ms ga' cg' ha ch (Y.setCell ⟨w.heap.size + 1, 2, none⟩ (.slice ga' (es.length + 1) cg')) := by
  obtain ⟨i0, hi, hz0, hz1, hz2⟩ := infoY
  have hsz := h.size
  have hp := h.hp
  have hoe : W.ownsRow (w.heap.size + 2) 41 5 (.slice ga es.length cg) es.length (es.flatMap flM.c) := h.dr.oe
  obtain ⟨v', Y, hr, ho, hgr, _, _⟩ := run_append_own_at (P := Try.prog) W (w.heap.size + 2) 24 t 41 i0 (.agg #[.int .i64 0, .string ByteArray.empty, .string ByteArray.empty, .string ByteArray.empty, .bool false]) 5 64 Try.underlying24 hi hz0 hz1 hz2 rfl (by decide) _ es.length _ hoe ⟨gb, 0, none⟩ 1 1 (flM.c e) rfl (fun j u hu => by rw [cadd]; exact bcell hb (by simpa [flM.c] using hu)) (by intro u hu; simp [flM.c] at hu; rcases hu with rfl | rfl | rfl | rfl | rfl <;> rfl) (by unfold maxLen; omega) (by omega) (by omega)
  obtain ⟨ga', cg', rfl⟩ := own_slice ho
  have hlt : ∀ g, (Value.slice ga es.length cg).ownBlock = some g → w.heap.size + 2 ≤ g := fun g hg => (hoe.lt g hg).1
  have n0 := own_block hoe h.rb (by decide)
  have n1 := own_block hoe h.sb (by decide)
  have hrb := grown_at hgr h.rb n0
  have hsb := grown_at hgr h.sb n1
  have hoh : HL Y (w.heap.size + 2) ha ch ms := hl_map h.dr.oh fun h => h.kept hgr (own_apart h hoe (by decide))
  have hon := h.on.grown hgr (fun k hk => by have := hlt k hk; omega)
  have hcu := h.cur.grown hgr (fun k hk => by have := hlt k hk; omega)
  have ho2 : OL flM.c 5 41 Y (w.heap.size + 2) ga' cg' (es ++ [e]) := by
    unfold OL
    rw [List.length_append, List.flatMap_append, List.flatMap_singleton]
    exact ho
  refine ⟨ga', cg', Y, hr, ⟨bcell hsb rfl, bfree hsb 2⟩, boff hrb _ _ _ (by omega), ?_, tq_cell ⟨ho2, hoh⟩ hsb, hcu.grown (row := some (w.heap.size + 1)) (On.setCell (On.refl _ _) 2 _) (fun k hk => by have := Option.some.inj hk; omega), hon.grown (row := some (w.heap.size + 1)) (On.setCell (On.refl _ _) 2 _) (fun k hk => by have := Option.some.inj hk; omega), hp⟩
  rw [List.length_append]
  exact bset hsb 2 _
/-- the first cell of a row of one's own is set -/
theorem own_first {W : World} {B n k c g : Nat} {U : TypeId} {x u : Value} {r : List Value} (h : W.ownsRow B U n (.slice (some ⟨g, 0, none⟩) k c) k (x :: r)) (hn : 0 < n) (hk : 0 < k) (h1 : u.oneCell' = true) : (W.setCell ⟨g, 0, none⟩ u).ownsRow B U n (.slice (some ⟨g, 0, none⟩) k c) k (u :: r) := by
  obtain ⟨hlen, ⟨e1, _⟩ | ⟨g', cap, cur, e1, hB, hg, hkc, hcm, hcs, ht⟩⟩ := h
  · cases e1
  cases e1
  refine ⟨by simpa using hlen, .inr ⟨g, c, cur.setIfInBounds 0 u, rfl, hB, bset hg 0 u, hkc, hcm, by simpa using hcs, ?_⟩⟩
  rw [Array.toList_setIfInBounds]
  cases hcl : cur.toList with
  | nil => rw [hcl] at ht; simp at ht
  | cons y l' =>
    obtain ⟨m, hm⟩ : ∃ m, k * n = m + 1 := ⟨k * n - 1, by have := Nat.mul_pos hk hn; omega⟩
    rw [hcl, hm, List.take_succ_cons] at ht
    rw [hm, List.set_cons_zero, List.take_succ_cons, (List.cons.inj ht).2]
/-- the first message's number is set -/
theorem St.first {e : flM.Ms} {l : List flM.Ms} {gq : Nat} (h : St p a len cap w sn nx (e :: l) ms (some ⟨gq, 0, none⟩) cg ha ch W) (z : Int) : St p a len cap w sn nx ({ e with q := z } :: l) ms (some ⟨gq, 0, none⟩) cg ha ch (W.setCell ⟨gq, 0, none⟩ (.int .i64 z)) := by
  have hsz := h.size
  have hp := h.hp
  have hoe : W.ownsRow (w.heap.size + 2) 41 5 (.slice (some ⟨gq, 0, none⟩) (e :: l).length cg) (e :: l).length ((e :: l).flatMap flM.c) := h.dr.oe
  have hlt := hoe.lt gq rfl
  have hoe2 : (W.setCell ⟨gq, 0, none⟩ (.int .i64 z)).ownsRow (w.heap.size + 2) 41 5 (.slice (some ⟨gq, 0, none⟩) (e :: l).length cg) (e :: l).length (({ e with q := z } :: l).flatMap flM.c) := own_first hoe (by decide) (Nat.succ_pos _) rfl
  have hoh : HL (W.setCell ⟨gq, 0, none⟩ (.int .i64 z)) (w.heap.size + 2) ha ch ms := hl_map h.dr.oh fun h => by
    obtain ⟨_, cur, hcu⟩ := owns_at hoe
    exact own_cell h hcu (by decide)
  exact ⟨boff h.rb _ _ _ (by omega), boff h.sb _ _ _ (by omega), ⟨hoe2, hoh⟩, h.cur.grown (row := some gq) (On.setCell (On.refl _ _) 0 _) (fun k hk => by have := Option.some.inj hk; omega), h.on.grown (row := some gq) (On.setCell (On.refl _ _) 0 _) (fun k hk => by have := Option.some.inj hk; omega), hp⟩
theorem St.first0 {e : flM.Ms} {l : List flM.Ms} {gq : Nat} (h : St p a len cap w sn nx (e :: l) ms (some ⟨gq, 0, none⟩) cg ha ch W) : W.cell? ⟨gq, 0, none⟩ = some (.int .i64 e.q) ∧ W.frozen? ⟨gq, 0, none⟩ = false := by
  obtain ⟨_, ⟨e1, _⟩ | ⟨g', cap', cur, e1, hB, hg, hkc, hcm, hcs, ht⟩⟩ := h.dr.oe
  · cases e1
  cases e1
  refine ⟨bcell hg ?_, bfree hg 0⟩
  rw [← Array.getElem?_toList]
  cases hcl : cur.toList with
  | nil => rw [hcl] at ht; simp [flM.c] at ht
  | cons y l' =>
    rw [hcl] at ht
    have h9 := congrArg (fun x => x[0]?) ht
    simp [flM.c] at h9
    simpa using h9
/-- the answer is laid -/
theorem St.done (h : St p a len cap w sn nx es ms ga cg ha ch W) (x0 x1 x2 x3 : Value) : Tq w.heap.size (res4 W w.heap.size x0 x1 x2 x3) es ms ga cg ha ch ∧ Cur (res4 W w.heap.size x0 x1 x2 x3) p a len cap ∧ On p w (res4 W w.heap.size x0 x1 x2 x3) := by
  have hp := h.hp
  exact ⟨(tq_res4 h.dr h.rb ..).low (by omega), h.cur.grown (row := some w.heap.size) (res4_on ..) (fun k hk => by have := Option.some.inj hk; omega), h.on.grown (row := some w.heap.size) (res4_on ..) (fun k hk => by have := Option.some.inj hk; omega)⟩
end
end Go.Proofs.Ytnlcmheahihlpaa.dtq

/- The specification's draw of a plain key. -/
namespace Go.Proofs.Ytnlcmheahihlpaa.dpl
set_option linter.unusedVariables false
open Go.ChangeShapes Go.WideShapes Go.ChangeAt Go.RowKit Go.Proofs.Ytnlcmheahihlpaa.dw

def abc : List ByteArray := [⟨#[97]⟩, ⟨#[98]⟩, ⟨#[99]⟩]
theorem abc_in : ∀ z ∈ abc, z.size ≤ 1 := by decide
set_option maxRecDepth 100000 in
set_option maxHeartbeats 1000000 in
theorem draw_plain (p : Nat) (a : Option Addr) (len cap : Nat) (w : World) (hc : Cur w p a len cap) :
    Calls Try.prog 65 #[.pointer (some ⟨p, 0, none⟩)] w fun e w' => (∃ s : ByteArray, s.size ≤ 5 ∧ e = .returned (.string s)) ∧ Cur w' p a len cap ∧ On p w w' := by
  have hp := hc.lt
  have h1 := draw_pick p a len cap w.heap.size 3 abc _ (by omega) (by omega) (at_texts w abc 9) (hc.alloc _)
  clear hc
  go_enter Try.func65, Try.ntmps65
  go_wp2_with (first | (go_at_call 45; refine h1.mono ?_; rintro e w1 ⟨⟨z, hz, rfl⟩, hc1, hb1⟩) | (go_at_call 49; refine (draw_below p a len cap 3 w1 (by omega) hc1).mono ?_; rintro e w2 ⟨⟨n, hn, rfl⟩, hc2, hb2⟩))
  have hz1 := abc_in z hz
  have hon : On p w w2 := (((On.refl p w).alloc _).trans hb1).trans hb2
  have HC2 : Hid (Cur w2 p a len cap) := hc2
  clear h1 hc1 hb1 hc2 hb2 hz
  go_loopw [3, 5] (fun y x wr => ∃ (j : Nat) (s : ByteArray), j ≤ n ∧ x = .int .i64 j ∧ y = .string s ∧ s.size ≤ 1 + 2 * j ∧ Hid (Cur wr p a len cap) ∧ On p w wr) (fun _ x _ => n - (intOf x).toNat)
  case atStart => exact ⟨0, z, Nat.zero_le _, rfl, rfl, by omega, HC2, hon⟩
  case round =>
    obtain ⟨j, s, hj, rfl, rfl, hs, hcur, honr⟩ := hrel
    have hpr := hcur.out.lt
    by_cases hjn : j < n
    · have g1 := draw_pick p a len cap wr.heap.size 3 abc _ (by omega) (by omega) (at_texts wr abc 9) (hcur.out.alloc _)
      have hs9 : s.size ≤ 1000 := by omega
      have HS : Hid (s.size ≤ 1 + 2 * j) := hs
      clear hs
      go_wp2_with (go_at_call 45; refine g1.mono ?_; rintro e x1 ⟨⟨y, hy, rfl⟩, hd1, hf1⟩; have hy1 := abc_in y hy; clear hy)
      have HD1 : Hid (Cur x1 p a len cap) := hd1
      have hf2 := (honr.alloc (.cells (abc.map Value.string).toArray 9)).trans hf1
      clear g1 hd1 hf1 hcur
      go_roundw
      case rel => exact ⟨j + 1, _, by omega, by go_num, rfl, by rw [ByteArray.size_append, ByteArray.size_append]; have := HS.out; have : (⟨#[46]⟩ : ByteArray).size = 1 := rfl; omega, HD1, hf2⟩
      case measure => simp [intOf]; omega
    · obtain rfl : j = n := by omega
      go_wp2
      go_ret
      exact ⟨⟨s, by omega, rfl⟩, hcur.out, honr⟩

end Go.Proofs.Ytnlcmheahihlpaa.dpl

/- The specification's draw of a name. -/
namespace Go.Proofs.Ytnlcmheahihlpaa.dnm
set_option linter.unusedVariables false
open Go.ChangeShapes Go.WideShapes Go.ChangeAt Go.RowKit Go.Proofs.Ytnlcmheahihlpaa.dw

def names : List ByteArray := [⟨#[97]⟩, ⟨#[98]⟩, ⟨#[99, 46, 100]⟩, ⟨#[113, 45, 49]⟩, ⟨#[97]⟩, ⟨#[98]⟩, ⟨#[]⟩, ⟨#[65]⟩, ⟨#[97, 32, 98]⟩, ⟨#[48, 49, 50, 51, 52, 53, 54, 55, 56, 57, 48, 49, 50, 51, 52, 53, 54, 55, 56, 57, 48, 49, 50, 51, 52, 53, 54, 55, 56, 57, 48]⟩, ⟨#[48, 49, 50, 51, 52, 53, 54, 55, 56, 57, 48, 49, 50, 51, 52, 53, 54, 55, 56, 57, 48, 49, 50, 51, 52, 53, 54, 55, 56, 57]⟩]
theorem names_in : ∀ z ∈ names, z.size ≤ 31 := by decide
set_option maxRecDepth 100000 in
set_option maxHeartbeats 1000000 in
theorem draw_name (p : Nat) (a : Option Addr) (len cap : Nat) (w : World) (hc : Cur w p a len cap) :
    Calls Try.prog 66 #[.pointer (some ⟨p, 0, none⟩)] w fun e w' => (∃ s : ByteArray, s.size ≤ 31 ∧ e = .returned (.string s)) ∧ Cur w' p a len cap ∧ On p w w' := by
  have hp := hc.lt
  have h1 := draw_pick p a len cap w.heap.size 11 names _ (by omega) (by omega) (at_texts w names 9) (hc.alloc _)
  have hon : On p w (w.alloc (.cells (names.map Value.string).toArray 9)) := (On.refl p w).alloc _
  clear hc
  go_enter Try.func66, Try.ntmps66
  go_wp2_with (go_at_call 45; fail)
  refine h1.mono ?_
  rintro e w1 ⟨⟨z, hz, rfl⟩, hc1, hb1⟩
  have hz1 := names_in z hz
  have hon1 := hon.trans hb1
  clear h1 hz hb1 hon
  go_wp2
  go_ret
  exact ⟨⟨z, hz1, rfl⟩, hc1, hon1⟩
end Go.Proofs.Ytnlcmheahihlpaa.dnm
