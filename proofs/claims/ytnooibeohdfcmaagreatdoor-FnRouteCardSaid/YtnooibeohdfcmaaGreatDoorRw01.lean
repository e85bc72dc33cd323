/- append(append(append([]T{}, a...), x), b...) laid into a field, in one region that draws its order: the row that it leaves. -/
import Derived.Test.YtnooibeohdfcmaaGreatDoorDelBind
import Derived.Test.YtnooibeohdfcmaaGreatDoorFlatOwn
import Derived.Maps.AppendAt
import Derived.Test.YtnooibeohdfcmaaGreatDoorDoneKit

/- The specification's Unbind: the exchanges as they are, and the bindings but for one queue's, in rows of their own. -/
namespace Go.Proofs.YtnooibeohdfcmaaGreatDoor.su
open Go.ChangeShapes Go.WideShapes Go.ChangeAt Go.RowKit Go.Proofs.YtnooibeohdfcmaaGreatDoor.rr Go.Proofs.YtnooibeohdfcmaaGreatDoor.ra Go.Proofs.YtnooibeohdfcmaaGreatDoor.rt Go.Proofs.YtnooibeohdfcmaaGreatDoor.fl Go.Proofs.YtnooibeohdfcmaaGreatDoor.db
set_option linter.unusedVariables false

def cE (e : Ex) : List Value := [.string e.n, .int .i64 e.k]
def cB (e : Bi) : List Value := [.string e.x, .string e.k, .string e.q]
theorem cE_len (e : Ex) : (cE e).length = 2 := rfl
theorem cB_len (e : Bi) : (cB e).length = 3 := rfl

/-- the worlds of the loop: l is what has been laid of the bindings, in the row v; the exchanges lie in the row ev -/
structure SI (w : World) (es : List Ex) (bs : List Bi) (a0 b0 : Option Addr) (ec bc n5 : Nat) (ev v u : Value) (l : List Bi) (W : World) : Prop where
  bel : Below w.heap.size w W
  box : W.heap[w.heap.size]? = some (.cells #[.slice a0 es.length ec, .slice b0 bs.length bc] 27 (0, 0))
  res : W.heap[w.heap.size + 1]? = some (.cells #[.slice none 0 0, .slice none 0 0] 27 (0, 0))
  out : W.heap[n5]? = some (.cells #[ev, u] 27 (0, 0))
  own : W.ownsRow (w.heap.size + 2) 45 3 v l.length (l.flatMap cB)
  ex : W.ownsRow (w.heap.size + 2) 75 2 ev es.length (es.flatMap cE)
  hn5 : w.heap.size + 2 ≤ n5
section
variable {w : World} {es : List Ex} {bs : List Bi} {a0 b0 : Option Addr} {ec bc n5 : Nat} {ev v u : Value} {l : List Bi} {W W' : World}
theorem own_stays {B n m : Nat} {T : TypeId} {v : Value} {xs : List Value} (h : W.ownsRow B T n v m xs) (hb : Below W.heap.size W W') : W'.ownsRow B T n v m xs :=
  h.kept (row := none) ⟨hb.os, hb.tape, hb.output, hb.size, fun k hk _ => hb.block k hk⟩ (by cases h : v.ownBlock <;> simp)
theorem SI.on (h : SI w es bs a0 b0 ec bc n5 ev v u l W) (hb : Below W.heap.size W W') : SI w es bs a0 b0 ec bc n5 ev v u l W' :=
  ⟨h.bel.trans (hb.mono h.bel.size), bstay h.box hb (Array.getElem?_eq_some_iff.1 h.box).1, bstay h.res hb (Array.getElem?_eq_some_iff.1 h.res).1, bstay h.out hb (Array.getElem?_eq_some_iff.1 h.out).1, own_stays h.own hb, own_stays h.ex hb, h.hn5⟩
/-- the row grows: nothing but it is turned -/
theorem apart {B n m h : Nat} {T T' : TypeId} {v : Value} {xs : List Value} {cur : Array Value} (h1 : W.ownsRow B T n v m xs) (h2 : W.heap[h]? = some (.cells cur T' (0, 0))) (hT : T ≠ T') : v.ownBlock ≠ some h := by
  intro e
  obtain ⟨_, ⟨rfl, _⟩ | ⟨g, cap, c, rfl, _, h3, _⟩⟩ := h1
  · simp [Value.ownBlock] at e
  · simp [Value.ownBlock] at e
    subst e
    rw [h2] at h3
    simp at h3
    exact hT h3.2.symm
theorem apartOO {B n m B' n' m' : Nat} {T T' : TypeId} {v v' : Value} {xs xs' : List Value} (h1 : W.ownsRow B T n v m xs) (h2 : W.ownsRow B' T' n' v' m' xs') (hT : T ≠ T') : v.ownBlock = none ∨ v.ownBlock ≠ v'.ownBlock := by
  obtain ⟨_, ⟨rfl, _⟩ | ⟨g, cap, c, rfl, _, h3, _⟩⟩ := h1
  · exact .inl rfl
  · refine .inr fun e => ?_
    refine apart h2 h3 (Ne.symm hT) ?_
    rw [← e]
    rfl
theorem SI.grow {v' : Value} {l' : List Bi} (h : SI w es bs a0 b0 ec bc n5 ev v u l W) (hg : W.grownBy W' v.ownBlock) (ho : W'.ownsRow (w.heap.size + 2) 45 3 v' l'.length (l'.flatMap cB)) : SI w es bs a0 b0 ec bc n5 ev v' u l' W' := by
  have hb : ∀ b, v.ownBlock = some b → w.heap.size + 2 ≤ b := fun b hb => (h.own.lt b hb).1
  refine ⟨h.bel.grown hg h.bel.size fun b hb' => ?_, ?_, ?_, ?_, ho, ?_, h.hn5⟩
  · have := hb b hb'; omega
  · rw [hg.block _ (Array.getElem?_eq_some_iff.1 h.box).1 (fun e => by have := hb _ e.symm; omega)]; exact h.box
  · rw [hg.block _ (Array.getElem?_eq_some_iff.1 h.res).1 (fun e => by have := hb _ e.symm; omega)]; exact h.res
  · rw [hg.block _ (Array.getElem?_eq_some_iff.1 h.out).1 (fun e => apart h.own h.out (by decide) e.symm)]; exact h.out
  · exact h.ex.kept hg (apartOO h.ex h.own (by decide))
theorem SI.put {z : Value} (h : SI w es bs a0 b0 ec bc n5 ev v u l W) : SI w es bs a0 b0 ec bc n5 ev v z l (W.setCell ⟨n5, 1, none⟩ z) := by
  have hn := h.hn5
  have hg : W.grownBy (W.setCell ⟨n5, 1, none⟩ z) (some n5) := db.gb_set (db.gb_refl _ _) 1 z
  refine ⟨h.bel.setCell (by show w.heap.size ≤ n5; omega) _, boff h.box _ _ _ (by omega), boff h.res _ _ _ (by omega), bset h.out 1 z, h.own.kept hg ?_, h.ex.kept hg ?_, hn⟩
  · exact .inr (apart h.own h.out (by decide))
  · exact .inr (apart h.ex h.out (by decide))
end

/-- what is drawn while one more is laid: where it lies ahead, and the row behind it -/
structure G where
  h : Nat
  v : Value
def ws (s m : Nat) (b0 : Option Addr) (kb bc n5 k : Nat) (v : Value) (x y z : ByteArray) (g : G) : List (Nat × Value) := [(27, .pointer (some ⟨n5, 1, none⟩)), (28, v), (29, .pointer (some ⟨s, 1, none⟩)), (30, .slice b0 m bc), (31, .int .i64 k), (32, .pointer (some ⟨kb, k * 3, none⟩)), (33, .agg #[.string x, .string y, .string z]), (34, .slice (some ⟨g.h, 0, none⟩) 1 1), (35, g.v), (36, .pointer (some ⟨n5, 1, none⟩))]
structure D (w : World) (es : List Ex) (bs : List Bi) (a0 b0 : Option Addr) (ec bc n5 : Nat) (ev v : Value) (l : List Bi) (k : Nat) (x y z : ByteArray) (g : G) (b1 b7 b8 b10 : Bool) (W : World) : Prop where
  si : SI w es bs a0 b0 ec bc n5 ev (if b8 then g.v else v) (if b10 then g.v else v) (if b8 then l ++ [⟨x, y, z⟩] else l) W
  at7 : b7 = true → b8 = false → W.heap[g.h]? = some (.cells #[.string x, .string y, .string z] 45 (0, 0))
  at8 : b8 = true → b1 = true ∧ b7 = true
  at10 : b10 = true → b8 = true
def C (w : World) (es : List Ex) (bs : List Bi) (a0 b0 : Option Addr) (ec bc n5 : Nat) (ev v : Value) (l : List Bi) (k : Nat) (x y z : ByteArray) (g : G) (L : Nat → Bool) (W : World) : Prop := D w es bs a0 b0 ec bc n5 ev v l k x y z g (L 1) (L 7) (L 8) (L 10) W
section
variable {w : World} {es : List Ex} {bs : List Bi} {a0 b0 : Option Addr} {ec bc n5 kb : Nat} {ev v : Value} {l : List Bi} {k : Nat} {x y z : ByteArray} {act : Act} {Q : Exit → Act → World → Prop}
theorem quiet {i : Nat} {o : Oper} (h7 : i ≠ 7) (h8 : i ≠ 8) (h10 : i ≠ 10) (hsel : ∀ cs b, o.op ≠ .select cs b) (u : Value) (hd : ∀ s d, o.dst = some d → (dk.sets act (ws w.heap.size bs.length b0 kb bc n5 k v x y z s)).tmps[d]? = some u)
    (hrun : ∀ s L W, L i = false → C w es bs a0 b0 ec bc n5 ev v l k x y z s L W → (execOp (dk.sets act (ws w.heap.size bs.length b0 kb bc n5 k v x y z s)).eval o).run Tryz.prog W = .ok (.value u) W) :
    gh.Step Tryz.prog (fun s => dk.sets act (ws w.heap.size bs.length b0 kb bc n5 k v x y z s)) (C w es bs a0 b0 ec bc n5 ev v l k x y z) Q i o := by
  refine gh.step_val hsel fun s L W hdp h0 hC => ⟨s, u, gh.Agree.refl _ _, hd s, ?_⟩
  rw [hrun s L W h0 hC]
  refine ⟨rfl, ?_⟩
  have hC : D w es bs a0 b0 ec bc n5 ev v l k x y z s (L 1) (L 7) (L 8) (L 10) W := hC
  unfold C dn.more
  rw [if_neg (Ne.symm h7), if_neg (Ne.symm h8), if_neg (Ne.symm h10)]
  refine ⟨hC.si, hC.at7, fun e => ⟨?_, (hC.at8 e).2⟩, hC.at10⟩
  split
  · rfl
  · exact (hC.at8 e).1
theorem st7 {o : Oper} (hsz : 36 < act.tmps.size) (hop : o.op = .buildSlice 25 1 #[(0, .tmp 33)]) (hdst : o.dst = some 34) :
    gh.Step Tryz.prog (fun s => dk.sets act (ws w.heap.size bs.length b0 kb bc n5 k v x y z s)) (C w es bs a0 b0 ec bc n5 ev v l k x y z) Q 7 o := by
  refine gh.step_val (by rw [hop]; simp) fun s L W hdp h0 hC => ⟨{ s with h := W.heap.size }, .slice (some ⟨W.heap.size, 0, none⟩) 1 1, dk.agree_sets 7 34 _ hdst rfl rfl, (fun d hd => by rw [hdst] at hd; cases hd; exact dk.sets_on _ (by omega) _ rfl), ?_⟩
  have e33 : (dk.sets act (ws w.heap.size bs.length b0 kb bc n5 k v x y z s)).tmps[33]? = some (.agg #[.string x, .string y, .string z]) := dk.sets_on _ (by omega) _ rfl
  have hrun : (execOp (dk.sets act (ws w.heap.size bs.length b0 kb bc n5 k v x y z s)).eval o).run Tryz.prog W = .ok (.value (.slice (some ⟨W.heap.size, 0, none⟩) 1 1)) (W.alloc (.cells #[.string x, .string y, .string z] 45)) := by
    simp [execOp, hop, e33, go_sem]
  rw [hrun]
  refine ⟨rfl, ?_⟩
  have hC : D w es bs a0 b0 ec bc n5 ev v l k x y z s (L 1) (L 7) (L 8) (L 10) W := hC
  show D w es bs a0 b0 ec bc n5 ev v l k x y z _ (L 1) true (L 8) (L 10) _
  have h8 : L 8 = false := by
    cases h : L 8 with
    | false => rfl
    | true => have := (hC.at8 h).2; rw [h0] at this; cases this
  have h10 : L 10 = false := by
    cases h : L 10 with
    | false => rfl
    | true => have := hC.at10 h; rw [h8] at this; cases this
  have hsi := hC.si
  rw [h8, h10] at hsi ⊢
  exact ⟨hsi.on ((Below.refl _ _).alloc (Nat.le_refl _) _), fun _ _ => bnew W _ _, fun e => (by cases e), fun e => (by cases e)⟩
theorem infoB : ∃ i0, Tryz.prog.info? 45 = some i0 ∧ i0.zero = some (.agg #[.string ByteArray.empty, .string ByteArray.empty, .string ByteArray.empty]) ∧ i0.size = 3 ∧ i0.bytes = 48 := by
  have h := rt.infoB
  cases hh : Tryz.prog.info? 45 with
  | none => rw [hh] at h; cases h
  | some i => rw [hh] at h; simp at h; exact ⟨i, rfl, h.1, h.2.1, h.2.2⟩
theorem infoE : ∃ i0, Tryz.prog.info? 75 = some i0 ∧ i0.zero = some (.agg #[.string ByteArray.empty, .int .i64 0]) ∧ i0.size = 2 ∧ i0.bytes = 24 := by
  have h := rt.infoE
  cases hh : Tryz.prog.info? 75 with
  | none => rw [hh] at h; cases h
  | some i => rw [hh] at h; simp at h; exact ⟨i, rfl, h.1, h.2.1, h.2.2⟩
theorem st8 {o : Oper} (hl : l.length ≤ 1048576) (hsz : 36 < act.tmps.size) (hop : o.op = .call { callee := .builtin .append, args := #[.tmp 28, .tmp 34], argTypes := #[25, 25] }) (hdst : o.dst = some 35) (hd1 : ∃ e ∈ o.after, Region.binds .any e = true ∧ e.on = 1) (hd7 : ∃ e ∈ o.after, Region.binds .any e = true ∧ e.on = 7) :
    gh.Step Tryz.prog (fun s => dk.sets act (ws w.heap.size bs.length b0 kb bc n5 k v x y z s)) (C w es bs a0 b0 ec bc n5 ev v l k x y z) Q 8 o := by
  refine gh.step_val (by rw [hop]; simp) fun s L W hdp h0 hC => ?_
  obtain ⟨x1, m1, y1, z1⟩ := hd1
  obtain ⟨x7, m7, y7, z7⟩ := hd7
  have l1 := hdp x1 m1 y1
  have l7 := hdp x7 m7 y7
  rw [z1] at l1
  rw [z7] at l7
  have hC : D w es bs a0 b0 ec bc n5 ev v l k x y z s (L 1) (L 7) (L 8) (L 10) W := hC
  have h10 : L 10 = false := by
    cases h : L 10 with
    | false => rfl
    | true => have := hC.at10 h; rw [h0] at this; cases this
  have hsi := hC.si
  have hat := hC.at7 l7 h0
  rw [h0, h10] at hsi
  simp only [Bool.false_eq_true, if_false] at hsi
  obtain ⟨i0, hi, hz0, hz1, hz2⟩ := infoB
  obtain ⟨v', w', hr, ho, hg, _⟩ := run_append_own (P := Tryz.prog) W (w.heap.size + 2) 25 o.type 45 i0 _ 3 48 Tryz.underlying25 hi hz0 hz1 hz2 rfl (by omega) v l.length (l.flatMap cB) hsi.own
    ⟨s.h, 0, none⟩ 1 1 [.string x, .string y, .string z] rfl (fun j u hu => by
      match j, hu with
      | 0, hu => simp at hu; subst hu; exact bcell hat rfl
      | 1, hu => simp at hu; subst hu; exact bcell hat rfl
      | 2, hu => simp at hu; subst hu; exact bcell hat rfl
      | j + 3, hu => simp at hu) (by simp [Value.oneCell']) (by unfold maxLen; omega) (by omega) (by have := (Array.getElem?_eq_some_iff.1 hsi.res).1; omega)
  refine ⟨{ s with v := v' }, v', dk.agree_sets 8 35 _ hdst rfl rfl, (fun d hd => by rw [hdst] at hd; cases hd; exact dk.sets_on _ (by omega) _ rfl), ?_⟩
  have e28 : (dk.sets act (ws w.heap.size bs.length b0 kb bc n5 k v x y z s)).eval (.tmp 28) = v := dk.eval_on _ _ (by omega) rfl
  have e34 : (dk.sets act (ws w.heap.size bs.length b0 kb bc n5 k v x y z s)).eval (.tmp 34) = .slice (some ⟨s.h, 0, none⟩) 1 1 := dk.eval_on _ _ (by omega) rfl
  have hrun : (execOp (dk.sets act (ws w.heap.size bs.length b0 kb bc n5 k v x y z s)).eval o).run Tryz.prog W = .ok (.value v') w' := by
    unfold execOp
    simp only [hop, resolve, invoke, builtin, Sem.run_bind, Sem.run_pure, Result.andThen_ok, List.map_toArray, List.map_cons, List.map_nil, e28, e34, hr]
  rw [hrun]
  refine ⟨rfl, ?_⟩
  show D w es bs a0 b0 ec bc n5 ev v l k x y z _ (L 1) (L 7) true (L 10) _
  rw [h10]
  refine ⟨?_, fun _ e => (by cases e), fun _ => ⟨l1, l7⟩, fun e => (by cases e)⟩
  simp only [Bool.false_eq_true, if_false, if_true]
  refine hsi.grow hg ?_
  rw [List.flatMap_append, List.length_append]
  exact ho
theorem st10 {o : Oper} (hsz : 36 < act.tmps.size) (hop : o.op = .store 25 (.tmp 36) (.tmp 35)) (hdst : o.dst = none) (hd8 : ∃ e ∈ o.after, Region.binds .any e = true ∧ e.on = 8) :
    gh.Step Tryz.prog (fun s => dk.sets act (ws w.heap.size bs.length b0 kb bc n5 k v x y z s)) (C w es bs a0 b0 ec bc n5 ev v l k x y z) Q 10 o := by
  refine gh.step_val (by rw [hop]; simp) fun s L W hdp h0 hC => ⟨s, undef, gh.Agree.refl _ _, (fun d hd => by rw [hdst] at hd; cases hd), ?_⟩
  have e36 : (dk.sets act (ws w.heap.size bs.length b0 kb bc n5 k v x y z s)).tmps[36]? = some (.pointer (some ⟨n5, 1, none⟩)) := dk.sets_on _ (by omega) _ rfl
  have e35 : (dk.sets act (ws w.heap.size bs.length b0 kb bc n5 k v x y z s)).tmps[35]? = some s.v := dk.sets_on _ (by omega) _ rfl
  obtain ⟨x8, m8, y8, z8⟩ := hd8
  have l8 := hdp x8 m8 y8
  rw [z8] at l8
  have hC : D w es bs a0 b0 ec bc n5 ev v l k x y z s (L 1) (L 7) (L 8) (L 10) W := hC
  have hsi := hC.si
  rw [l8, h0] at hsi
  simp only [Bool.false_eq_true, if_false, if_true] at hsi
  have c1 : W.cell? ⟨n5, 1, none⟩ = some v := bcell hsi.out rfl
  have f1 := bfree hsi.out 1
  obtain ⟨a, cap, hsv, _⟩ := own_row cB_len hsi.own
  have hrun : (execOp (dk.sets act (ws w.heap.size bs.length b0 kb bc n5 k v x y z s)).eval o).run Tryz.prog W = .ok .skip (W.setCell ⟨n5, 1, none⟩ s.v) := by
    rw [hsv] at e35 ⊢
    simp [execOp, hop, e36, e35, go_sem, c1, f1]
  rw [hrun]
  refine ⟨rfl, ?_⟩
  show D w es bs a0 b0 ec bc n5 ev v l k x y z _ (L 1) (L 7) (L 8) true _
  rw [l8]
  refine ⟨?_, fun _ e => (by cases e), fun _ => hC.at8 l8, fun _ => rfl⟩
  simp only [if_true]
  exact hsi.put
end
theorem se_row {W : World} {B : Nat} {a : Option Addr} {es : List Ex} (h : Row cE 2 W B a es) : SE W B a es := by
  rcases h with h | ⟨b, off, ha, hlt, hc⟩
  · exact .inl h
  · exact .inr ⟨b, off, ha, hlt, fun i e he => ⟨hc i e he 0 _ rfl, hc i e he 1 _ rfl⟩⟩
theorem sb_row {W : World} {B : Nat} {a : Option Addr} {bs : List Bi} (h : Row cB 3 W B a bs) : SB W B a bs := by
  rcases h with h | ⟨b, off, ha, hlt, hc⟩
  · exact .inl h
  · exact .inr ⟨b, off, ha, hlt, fun i e he => ⟨hc i e he 0 _ rfl, hc i e he 1 _ rfl, hc i e he 2 _ rfl⟩⟩

set_option maxRecDepth 100000 in
set_option maxHeartbeats 2000000 in
theorem spec_unbind (q : ByteArray) (es : List Ex) (bs : List Bi) (a0 b0 : Option Addr) (ec bc : Nat) (w : World) (hel : es.length ≤ 1048576) (hbl : bs.length ≤ 1048576) {ka kb : Nat} (hE : RE w ka es) (hB : RB w kb bs) (hna : Hid (apa.NQ a0 ⟨ka, 0, none⟩ es.length ec)) (hnb : Hid (apa.NQ b0 ⟨kb, 0, none⟩ bs.length bc)) :
    Calls Tryz.prog 19 #[.agg #[.slice a0 es.length ec, .slice b0 bs.length bc], .string q] w fun r w' => ∃ ea ba ce cb, r = .returned (.agg #[.slice ea es.length ce, .slice ba (bs.filter fun b => !mine q b).length cb]) ∧ SE w' w'.heap.size ea es ∧ SB w' w'.heap.size ba (bs.filter fun b => !mine q b) ∧ Below w.heap.size w w' := by
  have HE : Hid (RE w ka es) := hE
  have HB : Hid (RB w kb bs) := hB
  obtain ⟨i0, hi, hz0, hz1, hz2⟩ := infoE
  have hb0 : Below w.heap.size w (((w.alloc (.cells #[.slice a0 es.length ec, .slice b0 bs.length bc] 27)).alloc (.cells #[.slice none 0 0, .slice none 0 0] 27)).alloc (.cells #[] 75)) := (((Below.refl _ _).alloc (Nat.le_refl _) _).alloc (by simp) _).alloc (by simp; omega) _
  have hbox := bold (bold (bnew w #[.slice a0 es.length ec, .slice b0 bs.length bc] 27) (.cells #[.slice none 0 0, .slice none 0 0] 27)) (.cells #[] 75)
  have hres := bold (bnew (w.alloc (.cells #[.slice a0 es.length ec, .slice b0 bs.length bc] 27)) #[.slice none 0 0, .slice none 0 0] 27) (.cells #[] 75)
  rw [World.size_alloc] at hres
  have hown0 : (((w.alloc (.cells #[.slice a0 es.length ec, .slice b0 bs.length bc] 27)).alloc (.cells #[.slice none 0 0, .slice none 0 0] 27)).alloc (.cells #[] 75)).ownsRow (w.heap.size + 2) 75 2 (.slice (some ⟨w.heap.size + 1 + 1, 0, none⟩) 0 0) 0 [] := by
    have := World.ownsRow_made (base := w.heap.size + 2) (e := 75) (size := 2) ((w.alloc (.cells #[.slice a0 es.length ec, .slice b0 bs.length bc] 27)).alloc (.cells #[.slice none 0 0, .slice none 0 0] 27)) #[] 0 (by simp) (by unfold maxLen; omega) (by simp)
    rw [World.size_alloc, World.size_alloc] at this
    exact this
  have hnews : ∀ (W : World), Below w.heap.size w W → ∀ j u, (es.flatMap cE)[j]? = some u → W.cell? ((⟨ka, 0, none⟩ : Addr).add j) = some u := fun W hW j u hu => by
    obtain ⟨i, e, r, h1, h2, h3⟩ := flat_get cE_len es j u hu
    obtain ⟨c0, c1⟩ := (HE.out.below hW).2 i e h1
    rw [show (⟨ka, 0, none⟩ : Addr).add j = ⟨ka, j, none⟩ by unfold Addr.add; split <;> simp_all, h3]
    match r, h2 with
    | 0, h2 => simp [cE] at h2; subst h2; exact c0
    | 1, h2 => simp [cE] at h2; subst h2; exact c1
    | r + 2, h2 => simp [cE] at h2
  have h1c : ∀ u ∈ es.flatMap cE, u.oneCell' = true := fun u hu => by
    obtain ⟨e, _, he⟩ := List.mem_flatMap.1 hu
    simp [cE] at he
    rcases he with rfl | rfl <;> rfl
  obtain ⟨W, hW⟩ : ∃ W, ((w.alloc (.cells #[.slice a0 es.length ec, .slice b0 bs.length bc] 27)).alloc (.cells #[.slice none 0 0, .slice none 0 0] 27)).alloc (.cells #[] 75) = W := ⟨_, rfl⟩
  rw [hW] at hb0 hbox hres hown0
  have hsz := (Array.getElem?_eq_some_iff.1 hres).1
  have step1 : ∀ ev w1, w1.ownsRow (w.heap.size + 2) 75 2 ev (0 + es.length) ([] ++ es.flatMap cE) → W.grownBy w1 (Value.slice (some ⟨w.heap.size + 1 + 1, 0, none⟩) 0 0).ownBlock →
      ∃ ea ce, ev = .slice ea es.length ce ∧ Hid (SI w es bs a0 b0 ec bc w1.heap.size (.slice ea es.length ce) (.slice none 0 0) (.slice none 0 0) [] (w1.alloc (.cells #[.slice ea es.length ce, .slice none 0 0] 27))) := by
    intro ev w1 ho1 hg1
    rw [Nat.zero_add, List.nil_append] at ho1
    obtain ⟨ea, ce, rfl, _⟩ := own_row cE_len ho1
    have hownb : ∀ b, (Value.slice (some ⟨w.heap.size + 1 + 1, 0, none⟩) 0 0).ownBlock = some b → b = w.heap.size + 1 + 1 := fun b hb => by simp [Value.ownBlock] at hb; exact hb.symm
    have hbel1 : Below w.heap.size w w1 := hb0.grown hg1 hb0.size fun b hb => by have := hownb b hb; omega
    have hbox1 : w1.heap[w.heap.size]? = some (.cells #[.slice a0 es.length ec, .slice b0 bs.length bc] 27 (0, 0)) := by
      rw [hg1.block _ (by omega) (fun e => by have := hownb _ e.symm; omega)]; exact hbox
    have hres1 : w1.heap[w.heap.size + 1]? = some (.cells #[.slice none 0 0, .slice none 0 0] 27 (0, 0)) := by
      rw [hg1.block _ (by omega) (fun e => by have := hownb _ e.symm; omega)]; exact hres
    have hal : Below w1.heap.size w1 (w1.alloc (.cells #[.slice ea es.length ce, .slice none 0 0] 27)) := (Below.refl _ _).alloc (Nat.le_refl _) _
    have := (Array.getElem?_eq_some_iff.1 hres1).1
    exact ⟨ea, ce, rfl, hbel1.trans (hal.mono hbel1.size), bold hbox1 _, bold hres1 _, bnew w1 _ _, World.ownsRow_nil _ _ _ _, own_stays ho1 hal, by omega⟩
  have x0 : W.cell? ⟨w.heap.size, 0, none⟩ = some (.slice a0 es.length ec) := bcell hbox rfl
  have hn1 := hnews W hb0
  have hle : w.heap.size + 2 ≤ W.heap.size := by omega
  clear hres hbox hb0 hE hB hnews hsz
  go_enter Tryz.func19, Tryz.ntmps19
  go_wp2_with (at_builtin; refine apa.wpList_append_any _ rfl (.tmp 7) (.tmp 9) 24 rfl (w.heap.size + 2) 75 i0 _ 2 24 Tryz.underlying24 hi hz0 hz1 hz2 rfl (by omega) _ 0 [] rfl hown0 a0 ⟨ka, 0, none⟩ es.length ec hna.out (es.flatMap cE) rfl (flat_len cE_len es) hn1 h1c (by unfold maxLen; omega) (by omega) hle ?_; intro ev w1 ho1 hg1 _; obtain ⟨ea, ce, rfl, HI⟩ := step1 ev w1 ho1 hg1; clear ho1 hg1)
  clear hW step1 hn1 h1c hown0 x0 hi hz0 hz1 hz2 hle
  go_loopw [6] (fun x wr => ∃ (k : Nat) (v : Value), k ≤ bs.length ∧ x = .int .i64 k ∧ Hid (SI w es bs a0 b0 ec bc w1.heap.size (.slice ea es.length ce) v v (K q bs k) wr)) (fun x _ => bs.length - (intOf x).toNat)
  case atStart => exact ⟨0, _, Nat.zero_le _, rfl, HI⟩
  case round =>
    obtain ⟨k, v, hk, rfl, hinv⟩ := hrel
    clear HI
    have y1 : wr.cell? ⟨w.heap.size, 1, none⟩ = some (.slice b0 bs.length bc) := bcell hinv.out.box rfl
    obtain ⟨n5, hn5⟩ : ∃ n5, w1.heap.size = n5 := ⟨_, rfl⟩
    rw [hn5] at hinv ⊢
    clear hn5
    by_cases hkl : k < bs.length
    · have HG : Hid (bs[k]? = some bs[k]) := List.getElem?_eq_getElem hkl
      have hqb : b0 = some ⟨kb, 0, none⟩ := hnb.out.at (by omega)
      have hR := HB.out.below hinv.out.bel
      obtain ⟨c0, c1, c2⟩ := hR.2 k _ HG.out
      have HKN := fun b h => K_next (q := q) (bs := bs) (j := k) (b := b) h
      have HKL := K_len q bs k
      obtain ⟨⟨x, y, z⟩, he⟩ : ∃ e, bs[k] = e := ⟨_, rfl⟩
      rw [he] at c0 c1 c2 HG
      have HK1 : Hid (K q bs (k + 1) = if mine q ⟨x, y, z⟩ then K q bs k else K q bs k ++ [⟨x, y, z⟩]) := HKN _ HG.out
      have c0 : wr.cell? ⟨kb, k * 3, none⟩ = some (.string x) := c0
      have c1 : wr.cell? ⟨kb, k * 3 + 1, none⟩ = some (.string y) := c1
      have c2 : wr.cell? ⟨kb, k * 3 + 2, none⟩ = some (.string z) := c2
      have HRB : Hid (RB wr kb bs) := hR
      clear he HKN hR
      cases hm : mine q ⟨x, y, z⟩ with
      | true =>
        rw [hm] at HK1
        have hz : (z.toList == q.toList) = true := hm
        have hz' : (!z.toList == q.toList) = false := by rw [hz]; rfl
        clear hm hz
        go_wp2
        try rw [← hqa]
        try rw [← hqb]
        go_roundw
        case rel =>
          have hx : K q bs (k + 1) = K q bs k := by simpa using HK1.out
          exact ⟨k + 1, v, by omega, by go_num, by unfold Hid; rw [hx]; exact hinv.out⟩
        case measure => simp [intOf]; omega
      | false =>
        rw [hm] at HK1
        have hz : (z.toList == q.toList) = false := hm
        have hz' : (!z.toList == q.toList) = true := by rw [hz]; rfl
        clear hm hz
        go_wp2
        have hd0 : D w es bs a0 b0 ec bc n5 (.slice ea es.length ce) v (K q bs k) k x y z ⟨0, .slice none 0 0⟩ false false false false wr.drew := ⟨hinv.out.on (Below.refl _ _).drew, fun e => (by cases e), fun e => (by cases e), fun e => (by cases e)⟩
        refine dk.region_gsets (ws w.heap.size bs.length b0 kb bc n5 k v x y z) [27, 28, 29, 30, 31, 32, 33, 34, 35, 36] (C w es bs a0 b0 ec bc n5 (.slice ea es.length ce) v (K q bs k) k x y z) ⟨0, .slice none 0 0⟩ (by kernel_rfl) (by kernel_rfl) (fun _ => rfl) (by kernel_rfl) hd0 ?each ?fin
        case each =>
          refine ⟨quiet (by decide) (by decide) (by decide) (by simp) (.pointer (some ⟨n5, 1, none⟩)) (by rintro s _ ⟨⟩; exact dk.sets_on _ (by simp) _ rfl) (fun s L W h0 hC => by simp [execOp, go_sem, Act.eval, dk.sets_get, ws, List.lookup]), ?_⟩
          refine ⟨quiet (by decide) (by decide) (by decide) (by simp) (v) (by rintro s _ ⟨⟩; exact dk.sets_on _ (by simp) _ rfl) (fun s L W h0 hC => by have hC : D w es bs a0 b0 ec bc n5 (.slice ea es.length ce) v (K q bs k) k x y z s (L 1) (L 7) (L 8) (L 10) W := hC; have h8 : L 8 = false := (by cases h : L 8 with | false => rfl | true => (have := (hC.at8 h).1; rw [h0] at this; cases this)); have h10 : L 10 = false := (by cases h : L 10 with | false => rfl | true => (have := hC.at10 h; rw [h8] at this; cases this)); have hs := hC.si; rw [h8, h10] at hs; have c : W.cell? ⟨n5, 1, none⟩ = some v := bcell hs.out rfl; simp [execOp, go_sem, Act.eval, dk.sets_get, ws, List.lookup, c]), ?_⟩
          refine ⟨quiet (by decide) (by decide) (by decide) (by simp) (.pointer (some ⟨w.heap.size, 1, none⟩)) (by rintro s _ ⟨⟩; exact dk.sets_on _ (by simp) _ rfl) (fun s L W h0 hC => by simp [execOp, go_sem, Act.eval, dk.sets_get, ws, List.lookup]), ?_⟩
          refine ⟨quiet (by decide) (by decide) (by decide) (by simp) (.slice b0 bs.length bc) (by rintro s _ ⟨⟩; exact dk.sets_on _ (by simp) _ rfl) (fun s L W h0 hC => by have c : W.cell? ⟨w.heap.size, 1, none⟩ = some (.slice b0 bs.length bc) := bcell hC.si.box rfl; simp [execOp, go_sem, Act.eval, dk.sets_get, ws, List.lookup, c]), ?_⟩
          refine ⟨quiet (by decide) (by decide) (by decide) (by simp) (.int .i64 k) (by rintro s _ ⟨⟩; exact dk.sets_on _ (by simp) _ rfl) (fun s L W h0 hC => by simp [execOp, go_sem, Act.eval, dk.sets_get, ws, List.lookup]), ?_⟩
          refine ⟨quiet (by decide) (by decide) (by decide) (by simp) (.pointer (some ⟨kb, k * 3, none⟩)) (by rintro s _ ⟨⟩; exact dk.sets_on _ (by simp) _ rfl) (fun s L W h0 hC => by simp [execOp, go_sem, Act.eval, dk.sets_get, ws, List.lookup, hkl, hqb]), ?_⟩
          refine ⟨quiet (by decide) (by decide) (by decide) (by simp) (.agg #[.string x, .string y, .string z]) (by rintro s _ ⟨⟩; exact dk.sets_on _ (by simp) _ rfl) (fun s L W h0 hC => by obtain ⟨d0, d1, d2⟩ := (HB.out.below hC.si.bel).2 k _ HG.out; have d0 : W.cell? ⟨kb, k * 3, none⟩ = some (.string x) := d0; have d1 : W.cell? ⟨kb, k * 3 + 1, none⟩ = some (.string y) := d1; have d2 : W.cell? ⟨kb, k * 3 + 2, none⟩ = some (.string z) := d2; simp [execOp, go_sem, Act.eval, dk.sets_get, ws, List.lookup, d0, d1, d2]), ?_⟩
          refine ⟨st7 (by simp) rfl rfl, ?_⟩
          refine ⟨st8 (by omega) (by simp) rfl rfl ⟨⟨1, .data⟩, by simp, rfl, rfl⟩ ⟨⟨7, .data⟩, by simp, rfl, rfl⟩, ?_⟩
          refine ⟨quiet (by decide) (by decide) (by decide) (by simp) (.pointer (some ⟨n5, 1, none⟩)) (by rintro s _ ⟨⟩; exact dk.sets_on _ (by simp) _ rfl) (fun s L W h0 hC => by simp [execOp, go_sem, Act.eval, dk.sets_get, ws, List.lookup]), ?_⟩
          exact ⟨st10 (by simp) rfl rfl ⟨⟨8, .data⟩, by simp, rfl, rfl⟩, trivial⟩
        case fin =>
          intro g L W2 hL hC
          have hD : D w es bs a0 b0 ec bc n5 (.slice ea es.length ce) v (K q bs k) k x y z g true true true true W2 := by
            have h : D w es bs a0 b0 ec bc n5 (.slice ea es.length ce) v (K q bs k) k x y z g (L 1) (L 7) (L 8) (L 10) W2 := hC
            rw [hL 1 (by decide), hL 7 (by decide), hL 8 (by decide), hL 10 (by decide)] at h
            exact h
          have HI : Hid (SI w es bs a0 b0 ec bc n5 (.slice ea es.length ce) g.v g.v (K q bs k ++ [⟨x, y, z⟩]) W2) := by
            have := hD.si
            simp only [if_true] at this
            exact this
          clear hC hD hL hd0 y1 c0 c1 c2
          simp only [dk.sets, ws]
          go_wp2
          try rw [← hqa]
          try rw [← hqb]
          go_roundw
          case rel =>
            have hx : K q bs (k + 1) = K q bs k ++ [⟨x, y, z⟩] := by simpa using HK1.out
            exact ⟨k + 1, g.v, by omega, by go_num, by unfold Hid; rw [hx]; exact HI.out⟩
          case measure => simp [intOf]; omega
    · obtain rfl : k = bs.length := by omega
      obtain ⟨ba, cb, hvv, hrow⟩ := own_row cB_len hinv.out.own
      obtain ⟨ea2, ce2, hev, hrowE⟩ := own_row cE_len hinv.out.ex
      obtain ⟨rfl, rfl⟩ : ea2 = ea ∧ ce2 = ce := by simp at hev; exact ⟨hev.1.symm, hev.2.symm⟩
      subst hvv
      have o0 : wr.cell? ⟨n5, 0, none⟩ = some (.slice ea2 es.length ce2) := bcell hinv.out.out rfl
      have o1 : wr.cell? ⟨n5, 1, none⟩ = some (.slice ba (K q bs bs.length).length cb) := bcell hinv.out.out rfl
      have r0 : wr.cell? ⟨w.heap.size + 1, 0, none⟩ = some (.slice none 0 0) := bcell hinv.out.res rfl
      have r1 : wr.cell? ⟨w.heap.size + 1, 1, none⟩ = some (.slice none 0 0) := bcell hinv.out.res rfl
      have f0 := bfree hinv.out.res 0
      have f1 := bfree hinv.out.res 1
      have HRW : Hid (Row cB 3 wr wr.heap.size ba (K q bs bs.length)) := hrow
      have HRE : Hid (Row cE 2 wr wr.heap.size ea2 es) := hrowE
      have HNB : Hid (∀ b off, ba = some ⟨b, off, none⟩ → b ≠ w.heap.size + 1) := fun b off e => by
        have := (hinv.out.own.lt b (by rw [e]; rfl)).1
        omega
      have HNE : Hid (∀ b off, ea2 = some ⟨b, off, none⟩ → b ≠ w.heap.size + 1) := fun b off e => by
        have := (hinv.out.ex.lt b (by rw [e]; rfl)).1
        omega
      clear hrow hrowE hev
      go_wp2
      refine bodyPost_ret (v := .agg #[.slice ea2 es.length ce2, .slice ba (K q bs bs.length).length cb]) (by simp [results, Tryz.results19, go_sem, r0, r1]) rfl ?_
      rw [← K_all]
      refine ⟨ea2, ba, ce2, cb, rfl, ?_, ?_, ?_⟩
      · exact se_row ((HRE.out.set HNE.out _).set HNE.out _)
      · exact sb_row ((HRW.out.set HNB.out _).set HNB.out _)
      · exact (hinv.out.bel.setCell (by show w.heap.size ≤ w.heap.size + 1; omega) _).setCell (by show w.heap.size ≤ w.heap.size + 1; omega) _
end Go.Proofs.YtnooibeohdfcmaaGreatDoor.su

/- The specification's l04Copy: the same routes in rows of their own. -/
namespace Go.Proofs.YtnooibeohdfcmaaGreatDoor.sc
open Go.ChangeShapes Go.WideShapes Go.ChangeAt Go.RowKit Go.Proofs.YtnooibeohdfcmaaGreatDoor.rr Go.Proofs.YtnooibeohdfcmaaGreatDoor.ra Go.Proofs.YtnooibeohdfcmaaGreatDoor.rt Go.Proofs.YtnooibeohdfcmaaGreatDoor.fl Go.Proofs.YtnooibeohdfcmaaGreatDoor.su
set_option linter.unusedVariables false

theorem form {w : World} {B n : Nat} {U : TypeId} {s : Nat} {v : Value} {xs : List Value} (h : w.ownsRow B U s v n xs) (hv : v ≠ .slice none 0 0) : ∃ g cap, v = .slice (some ⟨g, 0, none⟩) n cap ∧ B ≤ g ∧ g < w.heap.size := by
  obtain ⟨_, ⟨rfl, h0⟩ | ⟨g, cap, cur, rfl, hB, hg, _⟩⟩ := h
  · exact absurd rfl hv
  · exact ⟨g, cap, rfl, hB, (Array.getElem?_eq_some_iff.1 hg).1⟩
/-- where the two empty rows lie, the two rows behind the appends, and what the answer is built of -/
structure G where
  e0 : Nat
  b0 : Nat
  ve : Value
  vb : Value
  xe : Value
  xb : Value
def ws (s n m : Nat) (a0 b0 : Option Addr) (ec bc : Nat) (g : G) : List (Nat × Value) := [(3, .slice (some ⟨g.e0, 0, none⟩) 0 0), (4, .pointer (some ⟨s, 0, none⟩)), (5, .slice a0 n ec), (6, g.ve), (7, .slice (some ⟨g.b0, 0, none⟩) 0 0), (8, .pointer (some ⟨s, 1, none⟩)), (9, .slice b0 m bc), (10, g.vb), (11, .agg #[g.xe, g.xb])]
structure D (w : World) (es : List Ex) (bs : List Bi) (a0 b0 : Option Addr) (ec bc : Nat) (g : G) (c0 c3 c4 c7 c8 c9 : Bool) (W : World) : Prop where
  bel : Below w.heap.size w W
  box : W.heap[w.heap.size]? = some (.cells #[.slice a0 es.length ec, .slice b0 bs.length bc] 27 (0, 0))
  res : W.heap[w.heap.size + 1]? = some (.cells (if c9 then #[g.xe, g.xb] else #[.slice none 0 0, .slice none 0 0]) 27 (0, 0))
  at0 : c0 = true → c3 = false → W.ownsRow (w.heap.size + 2) 75 2 (.slice (some ⟨g.e0, 0, none⟩) 0 0) 0 []
  at3 : c3 = true → c0 = true ∧ W.ownsRow (w.heap.size + 2) 75 2 g.ve es.length (es.flatMap cE)
  at4 : c4 = true → c7 = false → W.ownsRow (w.heap.size + 2) 45 3 (.slice (some ⟨g.b0, 0, none⟩) 0 0) 0 []
  at7 : c7 = true → c4 = true ∧ W.ownsRow (w.heap.size + 2) 45 3 g.vb bs.length (bs.flatMap cB)
  at8 : c8 = true → c3 = true ∧ c7 = true ∧ g.xe = g.ve ∧ g.xb = g.vb
  at9 : c9 = true → c8 = true
  nn : (c3 = true → g.ve ≠ .slice none 0 0) ∧ (c7 = true → g.vb ≠ .slice none 0 0)
def C (w : World) (es : List Ex) (bs : List Bi) (a0 b0 : Option Addr) (ec bc : Nat) (g : G) (L : Nat → Bool) (W : World) : Prop := D w es bs a0 b0 ec bc g (L 0) (L 3) (L 4) (L 7) (L 8) (L 9) W
section
variable {w : World} {es : List Ex} {bs : List Bi} {a0 b0 : Option Addr} {ec bc : Nat} {g : G} {c0 c3 c4 c7 c8 c9 : Bool} {W W' : World}
theorem D.size (h : D w es bs a0 b0 ec bc g c0 c3 c4 c7 c8 c9 W) : w.heap.size + 2 ≤ W.heap.size := (Array.getElem?_eq_some_iff.1 h.res).1
/-- a row grows, or is new: what stands in other rows stays -/
theorem D.grow {r : Option Nat} (h : D w es bs a0 b0 ec bc g c0 c3 c4 c7 c8 c9 W) (hg : W.grownBy W' r) (hr : ∀ b, r = some b → w.heap.size + 2 ≤ b)
    (h0 : c0 = true → c3 = false → (Value.slice (some ⟨g.e0, 0, none⟩) 0 0).ownBlock = none ∨ (Value.slice (some ⟨g.e0, 0, none⟩) 0 0).ownBlock ≠ r) (h3 : c3 = true → g.ve.ownBlock = none ∨ g.ve.ownBlock ≠ r)
    (h4 : c4 = true → c7 = false → (Value.slice (some ⟨g.b0, 0, none⟩) 0 0).ownBlock = none ∨ (Value.slice (some ⟨g.b0, 0, none⟩) 0 0).ownBlock ≠ r) (h7 : c7 = true → g.vb.ownBlock = none ∨ g.vb.ownBlock ≠ r) : D w es bs a0 b0 ec bc g c0 c3 c4 c7 c8 c9 W' := by
  refine ⟨h.bel.grown hg h.bel.size fun b hb => ?_, ?_, ?_, fun a b => (h.at0 a b).kept hg (h0 a b), fun a => ⟨(h.at3 a).1, (h.at3 a).2.kept hg (h3 a)⟩, fun a b => (h.at4 a b).kept hg (h4 a b), fun a => ⟨(h.at7 a).1, (h.at7 a).2.kept hg (h7 a)⟩, h.at8, h.at9, h.nn⟩
  · have := hr b hb; omega
  · rw [hg.block _ (Array.getElem?_eq_some_iff.1 h.box).1 (fun e => by have := hr _ e.symm; omega)]; exact h.box
  · rw [hg.block _ (Array.getElem?_eq_some_iff.1 h.res).1 (fun e => by have := hr _ e.symm; omega)]; exact h.res
theorem D.alloc (h : D w es bs a0 b0 ec bc g c0 c3 c4 c7 c8 c9 W) (o : Obj) : D w es bs a0 b0 ec bc g c0 c3 c4 c7 c8 c9 (W.alloc o) :=
  h.grow (r := none) (World.grownBy_alloc W o none) (fun b e => by cases e) (fun _ _ => by simp [Value.ownBlock]) (fun _ => by cases g.ve.ownBlock <;> simp) (fun _ _ => by simp [Value.ownBlock]) (fun _ => by cases g.vb.ownBlock <;> simp)
end
section
variable {w : World} {es : List Ex} {bs : List Bi} {a0 b0 : Option Addr} {ec bc : Nat} {act : Act} {Q : Exit → Act → World → Prop}
theorem quiet {i : Nat} {o : Oper} (hi : i = 1 ∨ i = 2 ∨ i = 5 ∨ i = 6) (hsel : ∀ cs b, o.op ≠ .select cs b) (u : Value) (hd : ∀ s d, o.dst = some d → (dk.sets act (ws w.heap.size es.length bs.length a0 b0 ec bc s)).tmps[d]? = some u)
    (hrun : ∀ s W, W.heap[w.heap.size]? = some (.cells #[.slice a0 es.length ec, .slice b0 bs.length bc] 27 (0, 0)) → (execOp (dk.sets act (ws w.heap.size es.length bs.length a0 b0 ec bc s)).eval o).run Tryz.prog W = .ok (.value u) W) : gh.Step Tryz.prog (fun s => dk.sets act (ws w.heap.size es.length bs.length a0 b0 ec bc s)) (C w es bs a0 b0 ec bc) Q i o := by
  refine gh.step_val hsel fun s L W hdp h0 hC => ⟨s, u, gh.Agree.refl _ _, hd s, ?_⟩
  rw [hrun s W hC.box]
  refine ⟨rfl, ?_⟩
  unfold C dn.more
  rw [if_neg (by omega), if_neg (by omega), if_neg (by omega), if_neg (by omega), if_neg (by omega), if_neg (by omega)]
  exact hC
theorem st0 {o : Oper} (hsz : 11 < act.tmps.size) (hop : o.op = .buildSlice 24 0 #[]) (hdst : o.dst = some 3) : gh.Step Tryz.prog (fun s => dk.sets act (ws w.heap.size es.length bs.length a0 b0 ec bc s)) (C w es bs a0 b0 ec bc) Q 0 o := by
  refine gh.step_val (by rw [hop]; simp) fun s L W hdp h0 hC => ⟨{ s with e0 := W.heap.size }, .slice (some ⟨W.heap.size, 0, none⟩) 0 0, dk.agree_sets 0 3 _ hdst rfl rfl, (fun d hd => by rw [hdst] at hd; cases hd; exact dk.sets_on _ (by omega) _ rfl), ?_⟩
  have hrun : (execOp (dk.sets act (ws w.heap.size es.length bs.length a0 b0 ec bc s)).eval o).run Tryz.prog W = .ok (.value (.slice (some ⟨W.heap.size, 0, none⟩) 0 0)) (W.alloc (.cells #[] 75)) := by
    simp [execOp, hop, go_sem]
  rw [hrun]
  refine ⟨rfl, ?_⟩
  have hC : D w es bs a0 b0 ec bc s (L 0) (L 3) (L 4) (L 7) (L 8) (L 9) W := hC
  show D w es bs a0 b0 ec bc _ true (L 3) (L 4) (L 7) (L 8) (L 9) _
  have l3 : L 3 = false := by
    cases h : L 3 with
    | false => rfl
    | true => have := (hC.at3 h).1; rw [h0] at this; cases this
  have h1 := hC.alloc (.cells #[] 75)
  exact ⟨h1.bel, h1.box, h1.res, fun _ _ => World.ownsRow_made W #[] 0 hC.size (by unfold maxLen; omega) (by simp), fun e => (by rw [l3] at e; cases e), h1.at4, h1.at7, h1.at8, h1.at9, h1.nn⟩
theorem st4 {o : Oper} (hsz : 11 < act.tmps.size) (hop : o.op = .buildSlice 25 0 #[]) (hdst : o.dst = some 7) : gh.Step Tryz.prog (fun s => dk.sets act (ws w.heap.size es.length bs.length a0 b0 ec bc s)) (C w es bs a0 b0 ec bc) Q 4 o := by
  refine gh.step_val (by rw [hop]; simp) fun s L W hdp h0 hC => ⟨{ s with b0 := W.heap.size }, .slice (some ⟨W.heap.size, 0, none⟩) 0 0, dk.agree_sets 4 7 _ hdst rfl rfl, (fun d hd => by rw [hdst] at hd; cases hd; exact dk.sets_on _ (by omega) _ rfl), ?_⟩
  have hrun : (execOp (dk.sets act (ws w.heap.size es.length bs.length a0 b0 ec bc s)).eval o).run Tryz.prog W = .ok (.value (.slice (some ⟨W.heap.size, 0, none⟩) 0 0)) (W.alloc (.cells #[] 45)) := by
    simp [execOp, hop, go_sem]
  rw [hrun]
  refine ⟨rfl, ?_⟩
  have hC : D w es bs a0 b0 ec bc s (L 0) (L 3) (L 4) (L 7) (L 8) (L 9) W := hC
  show D w es bs a0 b0 ec bc _ (L 0) (L 3) true (L 7) (L 8) (L 9) _
  have l7 : L 7 = false := by
    cases h : L 7 with
    | false => rfl
    | true => have := (hC.at7 h).1; rw [h0] at this; cases this
  have h1 := hC.alloc (.cells #[] 45)
  exact ⟨h1.bel, h1.box, h1.res, h1.at0, h1.at3, fun _ _ => World.ownsRow_made W #[] 0 hC.size (by unfold maxLen; omega) (by simp), fun e => (by rw [l7] at e; cases e), h1.at8, h1.at9, h1.nn⟩
theorem st3 {o : Oper} (hl : es.length ≤ 1048576) {ka : Nat} (hn : apa.NQ a0 ⟨ka, 0, none⟩ es.length ec) (hR : RE w ka es) (hsz : 11 < act.tmps.size) (hop : o.op = .call { callee := .builtin .append, args := #[.tmp 3, .tmp 5], argTypes := #[24, 24] }) (hdst : o.dst = some 6) (hdp0 : ∃ e ∈ o.after, Region.binds .any e = true ∧ e.on = 0) : gh.Step Tryz.prog (fun s => dk.sets act (ws w.heap.size es.length bs.length a0 b0 ec bc s)) (C w es bs a0 b0 ec bc) Q 3 o := by
  refine gh.step_val (by rw [hop]; simp) fun s L W hdp h0 hC => ?_
  obtain ⟨xp, mp, yp, zp⟩ := hdp0
  have lp := hdp xp mp yp
  rw [zp] at lp
  have hC : D w es bs a0 b0 ec bc s (L 0) (L 3) (L 4) (L 7) (L 8) (L 9) W := hC
  have l8 : L 8 = false := by
    cases h : L 8 with
    | false => rfl
    | true => have := (hC.at8 h).1; rw [h0] at this; cases this
  have l9 : L 9 = false := by
    cases h : L 9 with
    | false => rfl
    | true => have := hC.at9 h; rw [l8] at this; cases this
  have hold := hC.at0 lp h0
  obtain ⟨i0, hi, hz0, hz1, hz2⟩ := su.infoE
  have hnews : ∀ j u, (es.flatMap cE)[j]? = some u → W.cell? ((⟨ka, 0, none⟩ : Addr).add j) = some u := fun j u hu => by
    obtain ⟨i, e, r, h1, h2, h3⟩ := flat_get cE_len es j u hu
    have d := (hR.below hC.bel).2 i e h1
    rw [show (⟨ka, 0, none⟩ : Addr).add j = ⟨ka, j, none⟩ by unfold Addr.add; split <;> simp_all, h3]
    match r, h2 with
      | 0, h2 => simp [cE] at h2; subst h2; exact d.1
      | 1, h2 => simp [cE] at h2; subst h2; exact d.2
      | r + 2, h2 => simp [cE] at h2
  have h1c : ∀ u ∈ es.flatMap cE, u.oneCell' = true := fun u hu => by
    obtain ⟨e, _, he⟩ := List.mem_flatMap.1 hu
    simp [cE] at he
    rcases he with rfl | rfl <;> rfl
  obtain ⟨v', w', hr, ho, hg, hnil⟩ := apa.run_append_any (P := Tryz.prog) W (w.heap.size + 2) 24 o.type 75 i0 _ 2 24 Tryz.underlying24 hi hz0 hz1 hz2 rfl (by omega) _ 0 [] hold a0 ⟨ka, 0, none⟩ es.length ec hn (es.flatMap cE) (flat_len cE_len es) hnews h1c (by unfold maxLen; omega) (by omega) hC.size
  rw [Nat.zero_add, List.nil_append] at ho
  refine ⟨{ s with ve := v' }, v', dk.agree_sets 3 6 _ hdst rfl rfl, (fun d hd => by rw [hdst] at hd; cases hd; exact dk.sets_on _ (by omega) _ rfl), ?_⟩
  have e1 : (dk.sets act (ws w.heap.size es.length bs.length a0 b0 ec bc s)).eval (.tmp 3) = .slice (some ⟨s.e0, 0, none⟩) 0 0 := dk.eval_on _ _ (by omega) rfl
  have e2 : (dk.sets act (ws w.heap.size es.length bs.length a0 b0 ec bc s)).eval (.tmp 5) = .slice a0 es.length ec := dk.eval_on _ _ (by omega) rfl
  have hrun : (execOp (dk.sets act (ws w.heap.size es.length bs.length a0 b0 ec bc s)).eval o).run Tryz.prog W = .ok (.value v') w' := by
    unfold execOp
    simp only [hop, resolve, invoke, builtin, Sem.run_bind, Sem.run_pure, Result.andThen_ok, List.map_toArray, List.map_cons, List.map_nil, e1, e2, hr]
  rw [hrun]
  refine ⟨rfl, ?_⟩
  show D w es bs a0 b0 ec bc _ (L 0) true (L 4) (L 7) (L 8) (L 9) _
  have hb : ∀ b, (Value.slice (some ⟨s.e0, 0, none⟩) 0 0).ownBlock = some b → w.heap.size + 2 ≤ b := fun b hb => (hold.lt b hb).1
  refine ⟨?_, ?_, ?_, fun _ e => (by cases e), fun _ => ⟨lp, ho⟩, fun e f => (hC.at4 e f).kept hg (apartOO (hC.at4 e f) hold (by decide)), fun e => ⟨(hC.at7 e).1, (hC.at7 e).2.kept hg (apartOO (hC.at7 e).2 hold (by decide))⟩, fun e => (by rw [l8] at e; cases e), fun e => (by rw [l9] at e; cases e), fun _ e => (by have := hnil.1 e; cases this.1), hC.nn.2⟩
  · exact hC.bel.grown hg hC.bel.size fun b hb' => by have := hb b hb'; omega
  · rw [hg.block _ (Array.getElem?_eq_some_iff.1 hC.box).1 (fun e => by have := hb _ e.symm; omega)]; exact hC.box
  · have hrs := hC.res
    rw [l9] at hrs ⊢
    rw [hg.block _ (Array.getElem?_eq_some_iff.1 hrs).1 (fun e => by have := hb _ e.symm; omega)]
    exact hrs
theorem st7 {o : Oper} (hl : bs.length ≤ 1048576) {kb : Nat} (hn : apa.NQ b0 ⟨kb, 0, none⟩ bs.length bc) (hR : RB w kb bs) (hsz : 11 < act.tmps.size) (hop : o.op = .call { callee := .builtin .append, args := #[.tmp 7, .tmp 9], argTypes := #[25, 25] }) (hdst : o.dst = some 10) (hdp0 : ∃ e ∈ o.after, Region.binds .any e = true ∧ e.on = 4) : gh.Step Tryz.prog (fun s => dk.sets act (ws w.heap.size es.length bs.length a0 b0 ec bc s)) (C w es bs a0 b0 ec bc) Q 7 o := by
  refine gh.step_val (by rw [hop]; simp) fun s L W hdp h0 hC => ?_
  obtain ⟨xp, mp, yp, zp⟩ := hdp0
  have lp := hdp xp mp yp
  rw [zp] at lp
  have hC : D w es bs a0 b0 ec bc s (L 0) (L 3) (L 4) (L 7) (L 8) (L 9) W := hC
  have l8 : L 8 = false := by
    cases h : L 8 with
    | false => rfl
    | true => have := (hC.at8 h).2.1; rw [h0] at this; cases this
  have l9 : L 9 = false := by
    cases h : L 9 with
    | false => rfl
    | true => have := hC.at9 h; rw [l8] at this; cases this
  have hold := hC.at4 lp h0
  obtain ⟨i0, hi, hz0, hz1, hz2⟩ := su.infoB
  have hnews : ∀ j u, (bs.flatMap cB)[j]? = some u → W.cell? ((⟨kb, 0, none⟩ : Addr).add j) = some u := fun j u hu => by
    obtain ⟨i, e, r, h1, h2, h3⟩ := flat_get cB_len bs j u hu
    have d := (hR.below hC.bel).2 i e h1
    rw [show (⟨kb, 0, none⟩ : Addr).add j = ⟨kb, j, none⟩ by unfold Addr.add; split <;> simp_all, h3]
    match r, h2 with
      | 0, h2 => simp [cB] at h2; subst h2; exact d.1
      | 1, h2 => simp [cB] at h2; subst h2; exact d.2.1
      | 2, h2 => simp [cB] at h2; subst h2; exact d.2.2
      | r + 3, h2 => simp [cB] at h2
  have h1c : ∀ u ∈ bs.flatMap cB, u.oneCell' = true := fun u hu => by
    obtain ⟨e, _, he⟩ := List.mem_flatMap.1 hu
    simp [cB] at he
    rcases he with rfl | rfl | rfl <;> rfl
  obtain ⟨v', w', hr, ho, hg, hnil⟩ := apa.run_append_any (P := Tryz.prog) W (w.heap.size + 2) 25 o.type 45 i0 _ 3 48 Tryz.underlying25 hi hz0 hz1 hz2 rfl (by omega) _ 0 [] hold b0 ⟨kb, 0, none⟩ bs.length bc hn (bs.flatMap cB) (flat_len cB_len bs) hnews h1c (by unfold maxLen; omega) (by omega) hC.size
  rw [Nat.zero_add, List.nil_append] at ho
  refine ⟨{ s with vb := v' }, v', dk.agree_sets 7 10 _ hdst rfl rfl, (fun d hd => by rw [hdst] at hd; cases hd; exact dk.sets_on _ (by omega) _ rfl), ?_⟩
  have e1 : (dk.sets act (ws w.heap.size es.length bs.length a0 b0 ec bc s)).eval (.tmp 7) = .slice (some ⟨s.b0, 0, none⟩) 0 0 := dk.eval_on _ _ (by omega) rfl
  have e2 : (dk.sets act (ws w.heap.size es.length bs.length a0 b0 ec bc s)).eval (.tmp 9) = .slice b0 bs.length bc := dk.eval_on _ _ (by omega) rfl
  have hrun : (execOp (dk.sets act (ws w.heap.size es.length bs.length a0 b0 ec bc s)).eval o).run Tryz.prog W = .ok (.value v') w' := by
    unfold execOp
    simp only [hop, resolve, invoke, builtin, Sem.run_bind, Sem.run_pure, Result.andThen_ok, List.map_toArray, List.map_cons, List.map_nil, e1, e2, hr]
  rw [hrun]
  refine ⟨rfl, ?_⟩
  show D w es bs a0 b0 ec bc _ (L 0) (L 3) (L 4) true (L 8) (L 9) _
  have hb : ∀ b, (Value.slice (some ⟨s.b0, 0, none⟩) 0 0).ownBlock = some b → w.heap.size + 2 ≤ b := fun b hb => (hold.lt b hb).1
  refine ⟨?_, ?_, ?_, fun e f => (hC.at0 e f).kept hg (apartOO (hC.at0 e f) hold (by decide)), fun e => ⟨(hC.at3 e).1, (hC.at3 e).2.kept hg (apartOO (hC.at3 e).2 hold (by decide))⟩, fun _ e => (by cases e), fun _ => ⟨lp, ho⟩, fun e => (by rw [l8] at e; cases e), fun e => (by rw [l9] at e; cases e), hC.nn.1, fun _ e => (by have := hnil.1 e; cases this.1)⟩
  · exact hC.bel.grown hg hC.bel.size fun b hb' => by have := hb b hb'; omega
  · rw [hg.block _ (Array.getElem?_eq_some_iff.1 hC.box).1 (fun e => by have := hb _ e.symm; omega)]; exact hC.box
  · have hrs := hC.res
    rw [l9] at hrs ⊢
    rw [hg.block _ (Array.getElem?_eq_some_iff.1 hrs).1 (fun e => by have := hb _ e.symm; omega)]
    exact hrs
theorem st8 {o : Oper} (hsz : 11 < act.tmps.size) (hop : o.op = .build 27 #[(0, .tmp 6), (1, .tmp 10)]) (hdst : o.dst = some 11) (hd3 : ∃ e ∈ o.after, Region.binds .any e = true ∧ e.on = 3) (hd7 : ∃ e ∈ o.after, Region.binds .any e = true ∧ e.on = 7) : gh.Step Tryz.prog (fun s => dk.sets act (ws w.heap.size es.length bs.length a0 b0 ec bc s)) (C w es bs a0 b0 ec bc) Q 8 o := by
  refine gh.step_val (by rw [hop]; simp) fun s L W hdp h0 hC => ⟨{ s with xe := s.ve, xb := s.vb }, .agg #[s.ve, s.vb], dk.agree_sets 8 11 _ hdst rfl rfl, (fun d hd => by rw [hdst] at hd; cases hd; exact dk.sets_on _ (by omega) _ rfl), ?_⟩
  obtain ⟨x3, m3, y3, z3⟩ := hd3
  have l3 := hdp x3 m3 y3
  rw [z3] at l3
  obtain ⟨x7, m7, y7, z7⟩ := hd7
  have l7 := hdp x7 m7 y7
  rw [z7] at l7
  have hC : D w es bs a0 b0 ec bc s (L 0) (L 3) (L 4) (L 7) (L 8) (L 9) W := hC
  have e6 : (dk.sets act (ws w.heap.size es.length bs.length a0 b0 ec bc s)).tmps[6]? = some s.ve := dk.sets_on _ (by omega) _ rfl
  have e10 : (dk.sets act (ws w.heap.size es.length bs.length a0 b0 ec bc s)).tmps[10]? = some s.vb := dk.sets_on _ (by omega) _ rfl
  obtain ⟨ua, uc, hu, _⟩ := own_row cE_len (hC.at3 l3).2
  obtain ⟨va, vc, hv, _⟩ := own_row cB_len (hC.at7 l7).2
  have hrun : (execOp (dk.sets act (ws w.heap.size es.length bs.length a0 b0 ec bc s)).eval o).run Tryz.prog W = .ok (.value (.agg #[s.ve, s.vb])) W := by
    rw [hu] at e6 ⊢
    rw [hv] at e10 ⊢
    simp [execOp, hop, e6, e10, go_sem]
  rw [hrun]
  refine ⟨rfl, ?_⟩
  have l9 : L 9 = false := by
    cases h : L 9 with
    | false => rfl
    | true => have := hC.at9 h; rw [h0] at this; cases this
  show D w es bs a0 b0 ec bc _ (L 0) (L 3) (L 4) (L 7) true (L 9) _
  have hrs := hC.res
  rw [l9] at hrs ⊢
  exact ⟨hC.bel, hC.box, hrs, hC.at0, hC.at3, hC.at4, hC.at7, fun _ => ⟨l3, l7, rfl, rfl⟩, fun e => (by cases e), hC.nn⟩
theorem st9 {o : Oper} (hsz : 11 < act.tmps.size) (h2s : act.tmps[2]? = some (.pointer (some ⟨w.heap.size + 1, 0, none⟩))) (hop : o.op = .store 27 (.tmp 2) (.tmp 11)) (hdst : o.dst = none) (hd8 : ∃ e ∈ o.after, Region.binds .any e = true ∧ e.on = 8) : gh.Step Tryz.prog (fun s => dk.sets act (ws w.heap.size es.length bs.length a0 b0 ec bc s)) (C w es bs a0 b0 ec bc) Q 9 o := by
  refine gh.step_val (by rw [hop]; simp) fun s L W hdp h0 hC => ⟨s, undef, gh.Agree.refl _ _, (fun d hd => by rw [hdst] at hd; cases hd), ?_⟩
  obtain ⟨x8, m8, y8, z8⟩ := hd8
  have l8 := hdp x8 m8 y8
  rw [z8] at l8
  have hC : D w es bs a0 b0 ec bc s (L 0) (L 3) (L 4) (L 7) (L 8) (L 9) W := hC
  obtain ⟨l3, l7, hxe, hxb⟩ := hC.at8 l8
  obtain ⟨ua, uc, hu, _⟩ := own_row cE_len (hC.at3 l3).2
  obtain ⟨va, vc, hv, _⟩ := own_row cB_len (hC.at7 l7).2
  have e2 : (dk.sets act (ws w.heap.size es.length bs.length a0 b0 ec bc s)).tmps[2]? = some (.pointer (some ⟨w.heap.size + 1, 0, none⟩)) := (dk.sets_off act 2 _ (by simp [ws])).trans h2s
  have e11 : (dk.sets act (ws w.heap.size es.length bs.length a0 b0 ec bc s)).tmps[11]? = some (.agg #[s.xe, s.xb]) := dk.sets_on _ (by omega) _ rfl
  have hrs := hC.res
  rw [h0] at hrs
  have c0 : W.cell? ⟨w.heap.size + 1, 0, none⟩ = some (.slice none 0 0) := bcell hrs rfl
  have c1 : W.cell? ⟨w.heap.size + 1, 1, none⟩ = some (.slice none 0 0) := bcell hrs rfl
  have f0 := bfree hrs 0
  have f1 := bfree hrs 1
  have hrun : (execOp (dk.sets act (ws w.heap.size es.length bs.length a0 b0 ec bc s)).eval o).run Tryz.prog W = .ok .skip ((W.setCell ⟨w.heap.size + 1, 0, none⟩ s.xe).setCell ⟨w.heap.size + 1, 1, none⟩ s.xb) := by
    rw [hxe, hu, hxb, hv] at e11
    rw [hxe, hu, hxb, hv]
    simp [execOp, hop, e2, e11, go_sem, c0, c1, f0, f1]
  rw [hrun]
  refine ⟨rfl, ?_⟩
  show D w es bs a0 b0 ec bc _ (L 0) (L 3) (L 4) (L 7) (L 8) true _
  have hg : W.grownBy ((W.setCell ⟨w.heap.size + 1, 0, none⟩ s.xe).setCell ⟨w.heap.size + 1, 1, none⟩ s.xb) (some (w.heap.size + 1)) := db.gb_set (db.gb_set (db.gb_refl _ _) 0 _) 1 _
  have hsz : w.heap.size ≤ w.heap.size + 1 := Nat.le_succ _
  refine ⟨(hC.bel.setCell hsz _).setCell hsz _, boff (boff hC.box _ _ _ (by omega)) _ _ _ (by omega), bset (bset hrs 0 _) 1 _, fun _ e => (by rw [l3] at e; cases e), fun e => ⟨(hC.at3 e).1, (hC.at3 e).2.kept hg (.inr (apart (hC.at3 e).2 hrs (by decide)))⟩, fun _ e => (by rw [l7] at e; cases e), fun e => ⟨(hC.at7 e).1, (hC.at7 e).2.kept hg (.inr (apart (hC.at7 e).2 hrs (by decide)))⟩, hC.at8, fun _ => l8, hC.nn⟩
end

set_option maxRecDepth 100000 in
set_option maxHeartbeats 2000000 in
theorem spec_copy (es : List Ex) (bs : List Bi) (a0 b0 : Option Addr) (ec bc : Nat) (w : World) (hel : es.length ≤ 1048576) (hbl : bs.length ≤ 1048576) {ka kb : Nat} (hE : RE w ka es) (hB : RB w kb bs) (hna : Hid (apa.NQ a0 ⟨ka, 0, none⟩ es.length ec)) (hnb : Hid (apa.NQ b0 ⟨kb, 0, none⟩ bs.length bc)) :
    Calls Tryz.prog 42 #[.agg #[.slice a0 es.length ec, .slice b0 bs.length bc]] w fun r w' => ∃ g1 c1 h1 c2, r = .returned (.agg #[.slice (some ⟨g1, 0, none⟩) es.length c1, .slice (some ⟨h1, 0, none⟩) bs.length c2]) ∧ w'.ownsRow (w.heap.size + 2) 75 2 (.slice (some ⟨g1, 0, none⟩) es.length c1) es.length (es.flatMap cE) ∧ w'.ownsRow (w.heap.size + 2) 45 3 (.slice (some ⟨h1, 0, none⟩) bs.length c2) bs.length (bs.flatMap cB) ∧ Below w.heap.size w w' := by
  have h0 : D w es bs a0 b0 ec bc ⟨0, 0, .slice none 0 0, .slice none 0 0, .slice none 0 0, .slice none 0 0⟩ false false false false false false ((w.alloc (.cells #[.slice a0 es.length ec, .slice b0 bs.length bc] 27)).alloc (.cells #[.slice none 0 0, .slice none 0 0] 27)).drew := by
    refine ⟨(((Below.refl _ _).alloc (Nat.le_refl _) _).alloc (by simp) _).drew, bold (bnew w _ _) _, ?_, by simp, by simp, by simp, by simp, by simp, by simp, by simp⟩
    have := bnew (w.alloc (.cells #[.slice a0 es.length ec, .slice b0 bs.length bc] 27)) #[.slice none 0 0, .slice none 0 0] 27
    rw [World.size_alloc] at this
    exact this
  have HE : Hid (RE w ka es) := hE
  have HB : Hid (RB w kb bs) := hB
  clear hE hB
  go_enter Tryz.func42, Tryz.ntmps42
  go_wp2
  refine dk.region_gsets (ws w.heap.size es.length bs.length a0 b0 ec bc) [3, 4, 5, 6, 7, 8, 9, 10, 11] (C w es bs a0 b0 ec bc) ⟨0, 0, .slice none 0 0, .slice none 0 0, .slice none 0 0, .slice none 0 0⟩ (by kernel_rfl) (by kernel_rfl) (fun _ => rfl) (by kernel_rfl) h0 ?each ?fin
  case each =>
    refine ⟨st0 (by simp) rfl rfl, ?_⟩
    refine ⟨quiet (by decide) (by simp) (.pointer (some ⟨w.heap.size, 0, none⟩)) (by rintro s _ ⟨⟩; exact dk.sets_on _ (by simp) _ rfl) (fun s W h => by simp [execOp, go_sem, Act.eval, dk.sets_get, ws, List.lookup]), ?_⟩
    refine ⟨quiet (by decide) (by simp) (.slice a0 es.length ec) (by rintro s _ ⟨⟩; exact dk.sets_on _ (by simp) _ rfl) (fun s W h => by have c : W.cell? ⟨w.heap.size, 0, none⟩ = some (.slice a0 es.length ec) := bcell h rfl; simp [execOp, go_sem, Act.eval, dk.sets_get, ws, List.lookup, c]), ?_⟩
    refine ⟨st3 hel hna.out HE.out (by simp) rfl rfl ⟨⟨0, .data⟩, by simp, rfl, rfl⟩, ?_⟩
    refine ⟨st4 (by simp) rfl rfl, ?_⟩
    refine ⟨quiet (by decide) (by simp) (.pointer (some ⟨w.heap.size, 1, none⟩)) (by rintro s _ ⟨⟩; exact dk.sets_on _ (by simp) _ rfl) (fun s W h => by simp [execOp, go_sem, Act.eval, dk.sets_get, ws, List.lookup]), ?_⟩
    refine ⟨quiet (by decide) (by simp) (.slice b0 bs.length bc) (by rintro s _ ⟨⟩; exact dk.sets_on _ (by simp) _ rfl) (fun s W h => by have c : W.cell? ⟨w.heap.size, 1, none⟩ = some (.slice b0 bs.length bc) := bcell h rfl; simp [execOp, go_sem, Act.eval, dk.sets_get, ws, List.lookup, c]), ?_⟩
    exact ⟨st7 hbl hnb.out HB.out (by simp) rfl rfl ⟨⟨4, .data⟩, by simp, rfl, rfl⟩, st8 (by simp) rfl rfl ⟨⟨3, .data⟩, by simp, rfl, rfl⟩ ⟨⟨7, .data⟩, by simp, rfl, rfl⟩, st9 (by simp) rfl rfl rfl ⟨⟨8, .data⟩, by simp, rfl, rfl⟩, trivial⟩
  case fin =>
    intro g L W hL hC
    have hD : D w es bs a0 b0 ec bc g true true true true true true W := by
      have h : D w es bs a0 b0 ec bc g (L 0) (L 3) (L 4) (L 7) (L 8) (L 9) W := hC
      rw [hL 0 (by decide), hL 3 (by decide), hL 4 (by decide), hL 7 (by decide), hL 8 (by decide), hL 9 (by decide)] at h
      exact h
    obtain ⟨_, _, hxe, hxb⟩ := hD.at8 rfl
    obtain ⟨_, oe⟩ := hD.at3 rfl
    obtain ⟨_, ob⟩ := hD.at7 rfl
    have hrs := hD.res
    have hbel := hD.bel
    rw [hxe, hxb] at hrs
    obtain ⟨g1, ce, hve, _, _⟩ := form oe (hD.nn.1 rfl)
    obtain ⟨h1, cb, hvb, _, _⟩ := form ob (hD.nn.2 rfl)
    simp only [dk.sets, ws, hxe, hxb]
    rw [hve] at oe hrs ⊢
    rw [hvb] at ob hrs ⊢
    clear hD hC hL h0 hxe hxb hve hvb
    have r0 : W.cell? ⟨w.heap.size + 1, 0, none⟩ = some (.slice (some ⟨g1, 0, none⟩) es.length ce) := bcell hrs rfl
    have r1 : W.cell? ⟨w.heap.size + 1, 1, none⟩ = some (.slice (some ⟨h1, 0, none⟩) bs.length cb) := bcell hrs rfl
    have OE : Hid (W.ownsRow (w.heap.size + 2) 75 2 (.slice (some ⟨g1, 0, none⟩) es.length ce) es.length (es.flatMap cE)) := oe
    have OB : Hid (W.ownsRow (w.heap.size + 2) 45 3 (.slice (some ⟨h1, 0, none⟩) bs.length cb) bs.length (bs.flatMap cB)) := ob
    clear oe ob hrs
    go_wp2
    exact bodyPost_ret (v := .agg #[.slice (some ⟨g1, 0, none⟩) es.length ce, .slice (some ⟨h1, 0, none⟩) bs.length cb]) (by simp [results, Tryz.results42, go_sem, r0, r1]) rfl ⟨g1, ce, h1, cb, rfl, OE.out, OB.out, hbel⟩
end Go.Proofs.YtnooibeohdfcmaaGreatDoor.sc

/- append(append(append([]T{}, a...), x), b...) laid into a field, in one region that draws its order: the row that it leaves. -/
namespace Go.Proofs.YtnooibeohdfcmaaGreatDoor.ta
open Go.ChangeShapes Go.WideShapes Go.ChangeAt Go.RowKit Go.Proofs.YtnooibeohdfcmaaGreatDoor.fl
set_option linter.unusedVariables false

/-- what is drawn: the empty row, the row behind the first append, the new one's place, the rows behind the other two -/
structure G where
  e0 : Nat
  v1 : Value
  h : Nat
  v2 : Value
  v3 : Value
/-- the world ahead, the type and its cells, the cells ahead, of the new one and behind, how many ahead and behind, and where the row is laid -/
structure Pr where
  W0 : World
  T : TypeId
  n : Nat
  xs : List Value
  ms : List Value
  ys : List Value
  k : Nat
  m : Nat
  b : Nat
  j : Nat
structure D (p : Pr) (g : G) (c0 c1 c2 c3 c4 c5 : Bool) (W : World) : Prop where
  bel : ∃ V, Below p.W0.heap.size p.W0 V ∧ W = if c5 then V.setCell ⟨p.b, p.j, none⟩ g.v3 else V
  at0 : c0 = true → c1 = false → W.ownsRow p.W0.heap.size p.T p.n (.slice (some ⟨g.e0, 0, none⟩) 0 0) 0 []
  at1 : c1 = true → c0 = true ∧ (c3 = false → W.ownsRow p.W0.heap.size p.T p.n g.v1 p.k p.xs)
  at2 : c2 = true → c3 = false → W.heap[g.h]? = some (.cells p.ms.toArray p.T (0, 0)) ∧ (c0 = true → c1 = false → g.e0 ≠ g.h) ∧ (c1 = true → g.v1.ownBlock ≠ some g.h)
  at3 : c3 = true → c1 = true ∧ c2 = true ∧ (c4 = false → W.ownsRow p.W0.heap.size p.T p.n g.v2 (p.k + 1) (p.xs ++ p.ms))
  at4 : c4 = true → c3 = true ∧ W.ownsRow p.W0.heap.size p.T p.n g.v3 (p.k + 1 + p.m) (p.xs ++ p.ms ++ p.ys)
  at5 : c5 = true → c4 = true
section
variable {p : Pr} {g : G} {c0 c1 c2 c3 c4 c5 : Bool} {W W' : World} {v : Value}
theorem D.size (h : D p g c0 c1 c2 c3 c4 c5 W) : p.W0.heap.size ≤ W.heap.size := by
  obtain ⟨V, hV, rfl⟩ := h.bel
  have := hV.size
  split
  · simpa using this
  · exact this
theorem D.old (h : D p g c0 c1 c2 c3 c4 c5 W) {b : Nat} {o : Obj} (hb : p.W0.heap[b]? = some o) (hne : b ≠ p.b) : W.heap[b]? = some o := by
  obtain ⟨V, hV, rfl⟩ := h.bel
  have := bstay hb hV (Array.getElem?_eq_some_iff.1 hb).1
  split
  · exact boff this _ _ _ hne
  · exact this
theorem D.below (h : D p g c0 c1 c2 c3 c4 false W) : Below p.W0.heap.size p.W0 W := by
  obtain ⟨V, hV, rfl⟩ := h.bel
  exact hV
theorem no31 (h : D p g c0 false c2 c3 c4 c5 W) : c3 = false := by
  cases c3 with
  | false => rfl
  | true => have := (h.at3 rfl).1; cases this
theorem no32 (h : D p g c0 c1 false c3 c4 c5 W) : c3 = false := by
  cases c3 with
  | false => rfl
  | true => have := (h.at3 rfl).2.1; cases this
theorem no4 (h : D p g c0 c1 c2 false c4 c5 W) : c4 = false := by
  cases c4 with
  | false => rfl
  | true => have := (h.at4 rfl).1; cases this
theorem no5 (h : D p g c0 c1 c2 c3 false c5 W) : c5 = false := by
  cases c5 with
  | false => rfl
  | true => have := h.at5 rfl; cases this
theorem no1 (h : D p g false c1 c2 c3 c4 c5 W) : c1 = false := by
  cases c1 with
  | false => rfl
  | true => have := (h.at1 rfl).1; cases this
/-- the empty row is made -/
theorem D.s0 (h : D p g false c1 c2 c3 c4 c5 W) : D p { g with e0 := W.heap.size } true c1 c2 c3 c4 c5 (W.alloc (.cells #[] p.T)) := by
  obtain rfl := no1 h
  obtain rfl := no31 h
  obtain rfl := no4 h
  obtain rfl := no5 h
  have hs := h.size
  refine ⟨⟨_, h.below.alloc hs _, rfl⟩, fun _ _ => World.ownsRow_made W #[] 0 hs (by unfold maxLen; omega) (by simp), fun e => (by cases e), fun e _ => ?_, fun e => (by cases e), fun e => (by cases e), fun e => (by cases e)⟩
  obtain ⟨h1, _, h3⟩ := h.at2 e rfl
  have := (Array.getElem?_eq_some_iff.1 h1).1
  exact ⟨bold h1 _, fun _ _ => (by show W.heap.size ≠ g.h; omega), h3⟩
/-- the first append -/
theorem D.s1 (h : D p g c0 false c2 c3 c4 c5 W) (h0 : c0 = true) (hg : W.grownBy W' (some g.e0)) (ho : W'.ownsRow p.W0.heap.size p.T p.n v p.k p.xs) (hat : v.ownBlock = some g.e0 ∨ v.ownBlock = some W.heap.size) : D p { g with v1 := v } c0 true c2 c3 c4 c5 W' := by
  obtain rfl := no31 h
  obtain rfl := no4 h
  obtain rfl := no5 h
  have hs := h.size
  have he := ((h.at0 h0 rfl).lt g.e0 rfl)
  refine ⟨⟨_, h.below.grown hg hs (fun b hb => by cases hb; exact he.1), rfl⟩, fun _ e => (by cases e), fun _ => ⟨h0, fun _ => ho⟩, fun e _ => ?_, fun e => (by cases e), fun e => (by cases e), fun e => (by cases e)⟩
  obtain ⟨h1, h2, _⟩ := h.at2 e rfl
  have hne := h2 h0 rfl
  have hlt := (Array.getElem?_eq_some_iff.1 h1).1
  refine ⟨(hg.block _ hlt (fun e => by have := Option.some.inj e; omega)).trans h1, fun _ e => (by cases e), fun _ e => ?_⟩
  have e' : v.ownBlock = some g.h := e
  rcases hat with ha | ha
  · rw [ha] at e'; have := Option.some.inj e'; omega
  · rw [ha] at e'; simp at e'; omega
/-- the new one's place -/
theorem D.s2 (h : D p g c0 c1 false c3 c4 c5 W) : D p { g with h := W.heap.size } c0 c1 true c3 c4 c5 (W.alloc (.cells p.ms.toArray p.T)) := by
  obtain rfl := no32 h
  obtain rfl := no4 h
  obtain rfl := no5 h
  have hs := h.size
  refine ⟨⟨_, h.below.alloc hs _, rfl⟩, fun a b => (h.at0 a b).alloc _, fun a => ⟨(h.at1 a).1, fun b => ((h.at1 a).2 b).alloc _⟩, fun _ _ => ⟨bnew W _ _, fun a b => ?_, fun a e => ?_⟩, fun e => (by cases e), fun e => (by cases e), fun e => (by cases e)⟩
  · have := ((h.at0 a b).lt g.e0 rfl).2
    show g.e0 ≠ W.heap.size
    omega
  · have := (((h.at1 a).2 rfl).lt _ e).2
    have : W.heap.size < W.heap.size := this
    omega
/-- the second append -/
theorem D.s3 (h : D p g c0 c1 c2 false c4 c5 W) (h1 : c1 = true) (h2 : c2 = true) (hg : W.grownBy W' g.v1.ownBlock) (ho : W'.ownsRow p.W0.heap.size p.T p.n v (p.k + 1) (p.xs ++ p.ms)) : D p { g with v2 := v } c0 c1 c2 true c4 c5 W' := by
  obtain rfl := no4 h
  obtain rfl := no5 h
  have hs := h.size
  have he := ((h.at1 h1).2 rfl).lt
  exact ⟨⟨_, h.below.grown hg hs (fun b hb => (he b hb).1), rfl⟩, fun a b => (by rw [h1] at b; cases b), fun a => ⟨(h.at1 a).1, fun e => (by cases e)⟩, fun _ e => (by cases e), fun _ => ⟨h1, h2, fun _ => ho⟩, fun e => (by cases e), fun e => (by cases e)⟩
/-- the third append -/
theorem D.s4 (h : D p g c0 c1 c2 c3 false c5 W) (h3 : c3 = true) (hg : W.grownBy W' g.v2.ownBlock) (ho : W'.ownsRow p.W0.heap.size p.T p.n v (p.k + 1 + p.m) (p.xs ++ p.ms ++ p.ys)) : D p { g with v3 := v } c0 c1 c2 c3 true c5 W' := by
  obtain rfl := no5 h
  have hs := h.size
  have he := ((h.at3 h3).2.2 rfl).lt
  obtain ⟨l1, l2, _⟩ := h.at3 h3
  exact ⟨⟨_, h.below.grown hg hs (fun b hb => (he b hb).1), rfl⟩, fun a b => (by rw [l1] at b; cases b), fun a => ⟨(h.at1 a).1, fun e => (by rw [h3] at e; cases e)⟩, fun _ e => (by rw [h3] at e; cases e), fun _ => ⟨l1, l2, fun e => (by cases e)⟩, fun _ => ⟨h3, ho⟩, fun e => (by cases e)⟩
/-- it is laid into its field -/
theorem D.s5 (h : D p g c0 c1 c2 c3 c4 false W) (h4 : c4 = true) (hb : p.b < p.W0.heap.size) : D p g c0 c1 c2 c3 c4 true (W.setCell ⟨p.b, p.j, none⟩ g.v3) := by
  obtain ⟨h3, ho⟩ := h.at4 h4
  obtain ⟨l1, l2, _⟩ := h.at3 h3
  refine ⟨⟨W, h.below, rfl⟩, fun a b => (by rw [l1] at b; cases b), fun a => ⟨(h.at1 a).1, fun e => (by rw [h3] at e; cases e)⟩, fun _ e => (by rw [h3] at e; cases e), fun _ => ⟨l1, l2, fun e => (by rw [h4] at e; cases e)⟩, fun _ => ⟨h3, ?_⟩, fun _ => h4⟩
  refine ho.kept (row := some p.b) ⟨rfl, rfl, rfl, by simp, fun k hk hne => Below.heap_setCell _ _ _ _ (fun e => hne (by rw [e]))⟩ ?_
  right
  intro e
  have := (ho.lt _ e).1
  omega
end
theorem add0 (g j : Nat) : (⟨g, 0, none⟩ : Addr).add j = ⟨g, j, none⟩ := by unfold Addr.add; split <;> simp_all
theorem more_on (L : Nat → Bool) (i : Nat) : dn.more L i i = true := by unfold dn.more; rw [if_pos rfl]
theorem more_off (L : Nat → Bool) {i j : Nat} (h : j ≠ i) : dn.more L i j = L j := by unfold dn.more; rw [if_neg h]
/-- the numbers of the six operations that count -/
structure J where
  j0 : Nat
  j1 : Nat
  j2 : Nat
  j3 : Nat
  j4 : Nat
  j5 : Nat
def J.up (x : J) : Prop := x.j0 < x.j1 ∧ x.j1 < x.j2 ∧ x.j2 < x.j3 ∧ x.j3 < x.j4 ∧ x.j4 < x.j5
def C (p : Pr) (x : J) (g : G) (L : Nat → Bool) (W : World) : Prop := D p g (L x.j0) (L x.j1) (L x.j2) (L x.j3) (L x.j4) (L x.j5) W
theorem C.d {p : Pr} {x : J} {g : G} {L : Nat → Bool} {W : World} (h : C p x g L W) : D p g (L x.j0) (L x.j1) (L x.j2) (L x.j3) (L x.j4) (L x.j5) W := h
section
variable {p : Pr} {x : J} {ws : G → List (Nat × Value)} {act : Act} {Q : Exit → Act → World → Prop} {o : Oper}
theorem quiet {i : Nat} (hi : i ≠ x.j0 ∧ i ≠ x.j1 ∧ i ≠ x.j2 ∧ i ≠ x.j3 ∧ i ≠ x.j4 ∧ i ≠ x.j5) (hsel : ∀ cs b, o.op ≠ .select cs b) (u : Value) (hd : ∀ s d, o.dst = some d → (dk.sets act (ws s)).tmps[d]? = some u)
    (hrun : ∀ s W, (∀ (b : Nat) (o : Obj), p.W0.heap[b]? = some o → b ≠ p.b → W.heap[b]? = some o) → (execOp (dk.sets act (ws s)).eval o).run Tryz.prog W = .ok (.value u) W) : gh.Step Tryz.prog (fun s => dk.sets act (ws s)) (C p x) Q i o := by
  refine gh.step_val hsel fun s L W hdp h0 hC => ⟨s, u, gh.Agree.refl _ _, hd s, ?_⟩
  rw [hrun s W (fun b o hb hne => hC.d.old hb hne)]
  refine ⟨rfl, ?_⟩
  obtain ⟨i0, i1, i2, i3, i4, i5⟩ := hi
  unfold C
  rw [more_off L i0.symm, more_off L i1.symm, more_off L i2.symm, more_off L i3.symm, more_off L i4.symm, more_off L i5.symm]
  exact hC
theorem st0 (hx : x.up) {d idx : Nat} (hsel : ∀ cs b, o.op ≠ .select cs b) (hdst : o.dst = some d) (hsz : d < act.tmps.size) (ld : ∀ g, (ws g).lookup d = some (.slice (some ⟨g.e0, 0, none⟩) 0 0)) (hidx : ∀ g, ((ws g)[idx]?.map (·.1)) = some d) (hset : ∀ g (e : Nat), ws { g with e0 := e } = (ws g).set idx (d, .slice (some ⟨e, 0, none⟩) 0 0))
    (hrun : ∀ s W, (execOp (dk.sets act (ws s)).eval o).run Tryz.prog W = .ok (.value (.slice (some ⟨W.heap.size, 0, none⟩) 0 0)) (W.alloc (.cells #[] p.T))) : gh.Step Tryz.prog (fun s => dk.sets act (ws s)) (C p x) Q x.j0 o := by
  refine gh.step_val hsel fun s L W hdp h0 hC => ⟨{ s with e0 := W.heap.size }, .slice (some ⟨W.heap.size, 0, none⟩) 0 0, dk.agree_sets idx d _ hdst (hidx s) (hset s _), (fun d' hd => by rw [hdst] at hd; cases hd; exact dk.sets_on _ hsz _ (ld _)), ?_⟩
  rw [hrun]
  refine ⟨rfl, ?_⟩
  obtain ⟨u0, u1, u2, u3, u4⟩ := hx
  have hd := hC.d
  rw [h0] at hd
  unfold C
  rw [more_on, more_off L (show x.j1 ≠ x.j0 by omega), more_off L (show x.j2 ≠ x.j0 by omega), more_off L (show x.j3 ≠ x.j0 by omega), more_off L (show x.j4 ≠ x.j0 by omega), more_off L (show x.j5 ≠ x.j0 by omega)]
  exact hd.s0
theorem st2 (hx : x.up) {d idx : Nat} (hsel : ∀ cs b, o.op ≠ .select cs b) (hdst : o.dst = some d) (hsz : d < act.tmps.size) (ld : ∀ g, (ws g).lookup d = some (.slice (some ⟨g.h, 0, none⟩) 1 1)) (hidx : ∀ g, ((ws g)[idx]?.map (·.1)) = some d) (hset : ∀ g (e : Nat), ws { g with h := e } = (ws g).set idx (d, .slice (some ⟨e, 0, none⟩) 1 1))
    (hrun : ∀ s W, (execOp (dk.sets act (ws s)).eval o).run Tryz.prog W = .ok (.value (.slice (some ⟨W.heap.size, 0, none⟩) 1 1)) (W.alloc (.cells p.ms.toArray p.T))) : gh.Step Tryz.prog (fun s => dk.sets act (ws s)) (C p x) Q x.j2 o := by
  refine gh.step_val hsel fun s L W hdp h0 hC => ⟨{ s with h := W.heap.size }, .slice (some ⟨W.heap.size, 0, none⟩) 1 1, dk.agree_sets idx d _ hdst (hidx s) (hset s _), (fun d' hd => by rw [hdst] at hd; cases hd; exact dk.sets_on _ hsz _ (ld _)), ?_⟩
  rw [hrun]
  refine ⟨rfl, ?_⟩
  obtain ⟨u0, u1, u2, u3, u4⟩ := hx
  have hd := hC.d
  rw [h0] at hd
  unfold C
  rw [more_on, more_off L (show x.j0 ≠ x.j2 by omega), more_off L (show x.j1 ≠ x.j2 by omega), more_off L (show x.j3 ≠ x.j2 by omega), more_off L (show x.j4 ≠ x.j2 by omega), more_off L (show x.j5 ≠ x.j2 by omega)]
  exact hd.s2
theorem app_run {ST s1 s2 m c : Nat} {a : Addr} {v v' : Value} {f : Act} {W w' : World} (hop : o.op = .call { callee := .builtin .append, args := #[.tmp s1, .tmp s2], argTypes := #[ST, ST] }) (e1 : f.eval (.tmp s1) = v) (e2 : f.eval (.tmp s2) = .slice (some a) m c) (hr : (Builtin.append_ #[ST, ST] o.type #[v, .slice (some a) m c]).run Tryz.prog W = .ok v' w') : (execOp f.eval o).run Tryz.prog W = .ok (.value v') w' := by
  unfold execOp
  simp only [hop, resolve, invoke, builtin, Sem.run_bind, Sem.run_pure, Result.andThen_ok, List.map_toArray, List.map_cons, List.map_nil, e1, e2, hr]
variable {ST : TypeId} {i0 : TypeInfo} {z : Value} {bytes : Nat}
theorem st1 (hx : x.up) (ht : Tryz.prog.underlying ST = some (.slice p.T)) (hi : Tryz.prog.info? p.T = some i0) (hz : i0.zero = some z) (hn : i0.size = p.n) (hb : i0.bytes = bytes) (hzs : z.cells.size = p.n) (hn0 : 0 < p.n)
    {s1 s2 d idx c : Nat} {a : Addr} (hop : o.op = .call { callee := .builtin .append, args := #[.tmp s1, .tmp s2], argTypes := #[ST, ST] }) (hdst : o.dst = some d) (hsz : d < act.tmps.size ∧ s1 < act.tmps.size ∧ s2 < act.tmps.size)
    (ld : ∀ g, (ws g).lookup d = some g.v1) (l1 : ∀ g, (ws g).lookup s1 = some (.slice (some ⟨g.e0, 0, none⟩) 0 0)) (l2 : ∀ g, (ws g).lookup s2 = some (.slice (some a) p.k c)) (hidx : ∀ g, ((ws g)[idx]?.map (·.1)) = some d) (hset : ∀ g (v : Value), ws { g with v1 := v } = (ws g).set idx (d, v))
    (hlen : p.xs.length = p.k * p.n) (hnews : ∀ W, Below p.W0.heap.size p.W0 W → ∀ j u, p.xs[j]? = some u → W.cell? (a.add j) = some u) (h1c : ∀ u ∈ p.xs, u.oneCell' = true) (hk : p.k ≤ 1048576) (hby : (0 + p.k) * bytes ≤ 140737488355328)
    (hdep : ∃ e ∈ o.after, Region.binds .any e = true ∧ e.on = x.j0) : gh.Step Tryz.prog (fun s => dk.sets act (ws s)) (C p x) Q x.j1 o := by
  refine gh.step_val (by rw [hop]; simp) fun s L W hdp h0 hC => ?_
  obtain ⟨xp, mp, yp, zp⟩ := hdep
  have lp := hdp xp mp yp
  rw [zp] at lp
  obtain ⟨u0, u1, u2, u3, u4⟩ := hx
  have hd := hC.d
  rw [h0] at hd
  have hbel : Below p.W0.heap.size p.W0 W := by
    have e3 := no31 hd
    rw [e3] at hd
    have e4 := no4 hd
    rw [e4] at hd
    have e5 := no5 hd
    rw [e5] at hd
    exact hd.below
  have hold := hd.at0 lp rfl
  obtain ⟨v', w', hr, ho, hg, _, hat⟩ := run_append_own_at (P := Tryz.prog) W p.W0.heap.size ST o.type p.T i0 z p.n bytes ht hi hz hn hb hzs hn0 _ 0 [] hold a p.k c p.xs hlen (hnews W hbel) h1c (by unfold maxLen; omega) hby hd.size
  rw [Nat.zero_add, List.nil_append] at ho
  refine ⟨{ s with v1 := v' }, v', dk.agree_sets idx d _ hdst (hidx s) (hset s _), (fun d' hd => by rw [hdst] at hd; cases hd; exact dk.sets_on _ hsz.1 _ (ld _)), ?_⟩
  rw [app_run hop (dk.eval_on _ _ hsz.2.1 (l1 s)) (dk.eval_on _ _ hsz.2.2 (l2 s)) hr]
  refine ⟨rfl, ?_⟩
  unfold C
  rw [more_on, more_off L (show x.j0 ≠ x.j1 by omega), more_off L (show x.j2 ≠ x.j1 by omega), more_off L (show x.j3 ≠ x.j1 by omega), more_off L (show x.j4 ≠ x.j1 by omega), more_off L (show x.j5 ≠ x.j1 by omega)]
  exact hd.s1 lp hg ho hat
theorem st3 (hx : x.up) (ht : Tryz.prog.underlying ST = some (.slice p.T)) (hi : Tryz.prog.info? p.T = some i0) (hz : i0.zero = some z) (hn : i0.size = p.n) (hb : i0.bytes = bytes) (hzs : z.cells.size = p.n) (hn0 : 0 < p.n)
    {s1 s2 d idx : Nat} (hop : o.op = .call { callee := .builtin .append, args := #[.tmp s1, .tmp s2], argTypes := #[ST, ST] }) (hdst : o.dst = some d) (hsz : d < act.tmps.size ∧ s1 < act.tmps.size ∧ s2 < act.tmps.size)
    (ld : ∀ g, (ws g).lookup d = some g.v2) (l1 : ∀ g, (ws g).lookup s1 = some g.v1) (l2 : ∀ g, (ws g).lookup s2 = some (.slice (some ⟨g.h, 0, none⟩) 1 1)) (hidx : ∀ g, ((ws g)[idx]?.map (·.1)) = some d) (hset : ∀ g (v : Value), ws { g with v2 := v } = (ws g).set idx (d, v))
    (hlen : p.ms.length = p.n) (h1c : ∀ u ∈ p.ms, u.oneCell' = true) (hk : p.k ≤ 1048576) (hby : (p.k + 1) * bytes ≤ 140737488355328)
    (hdep : ∃ e ∈ o.after, Region.binds .any e = true ∧ e.on = x.j1) (hdep2 : ∃ e ∈ o.after, Region.binds .any e = true ∧ e.on = x.j2) : gh.Step Tryz.prog (fun s => dk.sets act (ws s)) (C p x) Q x.j3 o := by
  refine gh.step_val (by rw [hop]; simp) fun s L W hdp h0 hC => ?_
  obtain ⟨xp, mp, yp, zp⟩ := hdep
  have lp := hdp xp mp yp
  rw [zp] at lp
  obtain ⟨xq, mq, yq, zq⟩ := hdep2
  have lq := hdp xq mq yq
  rw [zq] at lq
  obtain ⟨u0, u1, u2, u3, u4⟩ := hx
  have hd := hC.d
  rw [h0] at hd
  have hold := (hd.at1 lp).2 rfl
  obtain ⟨hcell, _, _⟩ := hd.at2 lq rfl
  have hnews : ∀ j u, p.ms[j]? = some u → W.cell? ((⟨s.h, 0, none⟩ : Addr).add j) = some u := fun j u hu => by
    rw [add0]
    exact bcell hcell (by simpa using hu)
  obtain ⟨v', w', hr, ho, hg, _, hat⟩ := run_append_own_at (P := Tryz.prog) W p.W0.heap.size ST o.type p.T i0 z p.n bytes ht hi hz hn hb hzs hn0 _ p.k p.xs hold ⟨s.h, 0, none⟩ 1 1 p.ms (by rw [hlen, Nat.one_mul]) hnews h1c (by unfold maxLen; omega) hby hd.size
  refine ⟨{ s with v2 := v' }, v', dk.agree_sets idx d _ hdst (hidx s) (hset s _), (fun d' hd => by rw [hdst] at hd; cases hd; exact dk.sets_on _ hsz.1 _ (ld _)), ?_⟩
  rw [app_run hop (dk.eval_on _ _ hsz.2.1 (l1 s)) (dk.eval_on _ _ hsz.2.2 (l2 s)) hr]
  refine ⟨rfl, ?_⟩
  unfold C
  rw [more_on, more_off L (show x.j0 ≠ x.j3 by omega), more_off L (show x.j1 ≠ x.j3 by omega), more_off L (show x.j2 ≠ x.j3 by omega), more_off L (show x.j4 ≠ x.j3 by omega), more_off L (show x.j5 ≠ x.j3 by omega)]
  exact hd.s3 lp lq hg ho
theorem st4 (hx : x.up) (ht : Tryz.prog.underlying ST = some (.slice p.T)) (hi : Tryz.prog.info? p.T = some i0) (hz : i0.zero = some z) (hn : i0.size = p.n) (hb : i0.bytes = bytes) (hzs : z.cells.size = p.n) (hn0 : 0 < p.n)
    {s1 s2 d idx c : Nat} {a : Addr} (hop : o.op = .call { callee := .builtin .append, args := #[.tmp s1, .tmp s2], argTypes := #[ST, ST] }) (hdst : o.dst = some d) (hsz : d < act.tmps.size ∧ s1 < act.tmps.size ∧ s2 < act.tmps.size)
    (ld : ∀ g, (ws g).lookup d = some g.v3) (l1 : ∀ g, (ws g).lookup s1 = some g.v2) (l2 : ∀ g, (ws g).lookup s2 = some (.slice (some a) p.m c)) (hidx : ∀ g, ((ws g)[idx]?.map (·.1)) = some d) (hset : ∀ g (v : Value), ws { g with v3 := v } = (ws g).set idx (d, v))
    (hlen : p.ys.length = p.m * p.n) (hnews : ∀ W, Below p.W0.heap.size p.W0 W → ∀ j u, p.ys[j]? = some u → W.cell? (a.add j) = some u) (h1c : ∀ u ∈ p.ys, u.oneCell' = true) (hk : p.k ≤ 1048576 ∧ p.m ≤ 1048576) (hby : (p.k + 1 + p.m) * bytes ≤ 140737488355328)
    (hdep : ∃ e ∈ o.after, Region.binds .any e = true ∧ e.on = x.j3) : gh.Step Tryz.prog (fun s => dk.sets act (ws s)) (C p x) Q x.j4 o := by
  refine gh.step_val (by rw [hop]; simp) fun s L W hdp h0 hC => ?_
  obtain ⟨xp, mp, yp, zp⟩ := hdep
  have lp := hdp xp mp yp
  rw [zp] at lp
  obtain ⟨u0, u1, u2, u3, u4⟩ := hx
  have hd := hC.d
  rw [h0] at hd
  have hbel : Below p.W0.heap.size p.W0 W := by
    have e5 := no5 hd
    rw [e5] at hd
    exact hd.below
  have hold := (hd.at3 lp).2.2 rfl
  obtain ⟨v', w', hr, ho, hg, _, hat⟩ := run_append_own_at (P := Tryz.prog) W p.W0.heap.size ST o.type p.T i0 z p.n bytes ht hi hz hn hb hzs hn0 _ (p.k + 1) (p.xs ++ p.ms) hold a p.m c p.ys hlen (hnews W hbel) h1c (by unfold maxLen; omega) hby hd.size
  refine ⟨{ s with v3 := v' }, v', dk.agree_sets idx d _ hdst (hidx s) (hset s _), (fun d' hd => by rw [hdst] at hd; cases hd; exact dk.sets_on _ hsz.1 _ (ld _)), ?_⟩
  rw [app_run hop (dk.eval_on _ _ hsz.2.1 (l1 s)) (dk.eval_on _ _ hsz.2.2 (l2 s)) hr]
  refine ⟨rfl, ?_⟩
  unfold C
  rw [more_on, more_off L (show x.j0 ≠ x.j4 by omega), more_off L (show x.j1 ≠ x.j4 by omega), more_off L (show x.j2 ≠ x.j4 by omega), more_off L (show x.j3 ≠ x.j4 by omega), more_off L (show x.j5 ≠ x.j4 by omega)]
  exact hd.s4 lp hg ho
theorem st5 (hx : x.up) (hsel : ∀ cs b, o.op ≠ .select cs b) (hdst : o.dst = none) (hb : p.b < p.W0.heap.size)
    (hrun : ∀ s W, (∀ (b : Nat) (o : Obj), p.W0.heap[b]? = some o → W.heap[b]? = some o) → (∃ a n c, s.v3 = .slice a n c) → (execOp (dk.sets act (ws s)).eval o).run Tryz.prog W = .ok .skip (W.setCell ⟨p.b, p.j, none⟩ s.v3))
    (hdep : ∃ e ∈ o.after, Region.binds .any e = true ∧ e.on = x.j4) : gh.Step Tryz.prog (fun s => dk.sets act (ws s)) (C p x) Q x.j5 o := by
  refine gh.step_val hsel fun s L W hdp h0 hC => ⟨s, undef, gh.Agree.refl _ _, (fun d hd => by rw [hdst] at hd; cases hd), ?_⟩
  obtain ⟨xp, mp, yp, zp⟩ := hdep
  have lp := hdp xp mp yp
  rw [zp] at lp
  obtain ⟨u0, u1, u2, u3, u4⟩ := hx
  have hd := hC.d
  rw [h0] at hd
  have hv : ∃ a n c, s.v3 = .slice a n c := by
    obtain ⟨_, ⟨e, _⟩ | ⟨g, cap, cur, e, _⟩⟩ := (hd.at4 lp).2
    · exact ⟨_, _, _, e⟩
    · exact ⟨_, _, _, e⟩
  rw [hrun s W (fun b o hb => bstay hb hd.below (Array.getElem?_eq_some_iff.1 hb).1) hv]
  refine ⟨rfl, ?_⟩
  unfold C
  rw [more_on, more_off L (show x.j0 ≠ x.j5 by omega), more_off L (show x.j1 ≠ x.j5 by omega), more_off L (show x.j2 ≠ x.j5 by omega), more_off L (show x.j3 ≠ x.j5 by omega), more_off L (show x.j4 ≠ x.j5 by omega)]
  exact hd.s5 lp hb
end
/-- when all is done -/
theorem done {p : Pr} {x : J} {g : G} {L : Nat → Bool} {W : World} {N : Nat} (hC : C p x g L W) (hx : x.up) (hN : x.j5 < N) (hL : ∀ i, i < N → L i = true) :
    ∃ V, Below p.W0.heap.size p.W0 V ∧ W = V.setCell ⟨p.b, p.j, none⟩ g.v3 ∧ W.ownsRow p.W0.heap.size p.T p.n g.v3 (p.k + 1 + p.m) (p.xs ++ p.ms ++ p.ys) := by
  have hd := hC.d
  obtain ⟨u0, u1, u2, u3, u4⟩ := hx
  rw [hL x.j4 (by omega), hL x.j5 hN] at hd
  obtain ⟨V, h1, h2⟩ := hd.bel
  exact ⟨V, h1, h2, (hd.at4 rfl).2⟩
/-- nothing is done yet -/
theorem start (p : Pr) (x : J) (g : G) : C p x g (fun _ => false) p.W0.drew :=
  ⟨⟨_, (Below.refl _ _).drew, rfl⟩, fun e => (by cases e), fun e => (by cases e), fun e => (by cases e), fun e => (by cases e), fun e => (by cases e), fun e => (by cases e)⟩
end Go.Proofs.YtnooibeohdfcmaaGreatDoor.ta
