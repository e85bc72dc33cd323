/- The specification's Unbind: the exchanges as they are, and the bindings but for one queue's, in rows of their own. -/
import Derived.Test.YtgfifjiidmfojaaDelBind
import Derived.Test.YtgfifjiidmfojaaFlatOwn
import Derived.Maps.AppendAt
namespace Go.Proofs.Ytgfifjiidmfojaa.su
open Go.ChangeShapes Go.WideShapes Go.ChangeAt Go.RowKit Go.Proofs.Ytgfifjiidmfojaa.rr Go.Proofs.Ytgfifjiidmfojaa.ra Go.Proofs.Ytgfifjiidmfojaa.rt Go.Proofs.Ytgfifjiidmfojaa.fl Go.Proofs.Ytgfifjiidmfojaa.db
set_option linter.unusedVariables false

def cE (e : Ex) : List Value := [.string e.n, .int .i64 e.k]
def cB (e : Bi) : List Value := [.string e.x, .string e.k, .string e.q]
theorem cE_len (e : Ex) : (cE e).length = 2 := rfl
theorem cB_len (e : Bi) : (cB e).length = 3 := rfl

/-- the worlds of the loop: l is what has been laid of the bindings, in the row v; the exchanges lie in the row ev -/
structure SI (w : World) (es : List Ex) (bs : List Bi) (a0 b0 ec bc n5 : Nat) (ev v u : Value) (l : List Bi) (W : World) : Prop where
  bel : Below w.heap.size w W
  box : W.heap[w.heap.size]? = some (.cells #[.slice (some ⟨a0, 0, none⟩) es.length ec, .slice (some ⟨b0, 0, none⟩) bs.length bc] 30 (0, 0))
  res : W.heap[w.heap.size + 1]? = some (.cells #[.slice none 0 0, .slice none 0 0] 30 (0, 0))
  out : W.heap[n5]? = some (.cells #[ev, u] 30 (0, 0))
  own : W.ownsRow (w.heap.size + 2) 61 3 v l.length (l.flatMap cB)
  ex : W.ownsRow (w.heap.size + 2) 49 2 ev es.length (es.flatMap cE)
  hn5 : w.heap.size + 2 ≤ n5
section
variable {w : World} {es : List Ex} {bs : List Bi} {a0 b0 ec bc n5 : Nat} {ev v u : Value} {l : List Bi} {W W' : World}
theorem own_stays {B n m : Nat} {T : TypeId} {v : Value} {xs : List Value} (h : W.ownsRow B T n v m xs) (hb : Below W.heap.size W W') : W'.ownsRow B T n v m xs :=
  h.kept (row := none) ⟨hb.os, hb.tape, hb.output, hb.size, fun k hk _ => hb.block k hk⟩ (by cases h : v.ownBlock <;> simp)
theorem SI.on (h : SI w es bs a0 b0 ec bc n5 ev v u l W) (hb : Below W.heap.size W W') : SI w es bs a0 b0 ec bc n5 ev v u l W' :=
  ⟨h.bel.trans (hb.mono h.bel.size), bstay h.box hb (Array.getElem?_eq_some_iff.1 h.box).1, bstay h.res hb (Array.getElem?_eq_some_iff.1 h.res).1, bstay h.out hb (Array.getElem?_eq_some_iff.1 h.out).1, own_stays h.own hb, own_stays h.ex hb, h.hn5⟩
/-- the row grows: nothing but it is turned -/
theorem apart {B n m h : Nat} {T T' : TypeId} {v : Value} {xs : List Value} {cur : Array Value} (h1 : W.ownsRow B T n v m xs) (h2 : W.heap[h]? = some (.cells cur T' (0, 0))) (hT : T ≠ T') : v.ownBlock ≠ some h := by
  intro e
  obtain ⟨_, ⟨rfl, _⟩ | ⟨g, cap, c, rfl, _, h3, _⟩⟩ := h1
  · simp [Value.ownBlock] at e
  · simp [Value.ownBlock] at e
    subst e
    rw [h2] at h3
    simp at h3
    exact hT h3.2.symm
theorem apartOO {B n m B' n' m' : Nat} {T T' : TypeId} {v v' : Value} {xs xs' : List Value} (h1 : W.ownsRow B T n v m xs) (h2 : W.ownsRow B' T' n' v' m' xs') (hT : T ≠ T') : v.ownBlock = none ∨ v.ownBlock ≠ v'.ownBlock := by
  obtain ⟨_, ⟨rfl, _⟩ | ⟨g, cap, c, rfl, _, h3, _⟩⟩ := h1
  · exact .inl rfl
  · refine .inr fun e => ?_
    refine apart h2 h3 (Ne.symm hT) ?_
    rw [← e]
    rfl
theorem SI.grow {v' : Value} {l' : List Bi} (h : SI w es bs a0 b0 ec bc n5 ev v u l W) (hg : W.grownBy W' v.ownBlock) (ho : W'.ownsRow (w.heap.size + 2) 61 3 v' l'.length (l'.flatMap cB)) : SI w es bs a0 b0 ec bc n5 ev v' u l' W' := by
  have hb : ∀ b, v.ownBlock = some b → w.heap.size + 2 ≤ b := fun b hb => (h.own.lt b hb).1
  refine ⟨h.bel.grown hg h.bel.size fun b hb' => ?_, ?_, ?_, ?_, ho, ?_, h.hn5⟩
  · have := hb b hb'; omega
  · rw [hg.block _ (Array.getElem?_eq_some_iff.1 h.box).1 (fun e => by have := hb _ e.symm; omega)]; exact h.box
  · rw [hg.block _ (Array.getElem?_eq_some_iff.1 h.res).1 (fun e => by have := hb _ e.symm; omega)]; exact h.res
  · rw [hg.block _ (Array.getElem?_eq_some_iff.1 h.out).1 (fun e => apart h.own h.out (by decide) e.symm)]; exact h.out
  · exact h.ex.kept hg (apartOO h.ex h.own (by decide))
theorem SI.put {z : Value} (h : SI w es bs a0 b0 ec bc n5 ev v u l W) : SI w es bs a0 b0 ec bc n5 ev v z l (W.setCell ⟨n5, 1, none⟩ z) := by
  have hn := h.hn5
  have hg : W.grownBy (W.setCell ⟨n5, 1, none⟩ z) (some n5) := db.gb_set (db.gb_refl _ _) 1 z
  refine ⟨h.bel.setCell (by show w.heap.size ≤ n5; omega) _, boff h.box _ _ _ (by omega), boff h.res _ _ _ (by omega), bset h.out 1 z, h.own.kept hg ?_, h.ex.kept hg ?_, hn⟩
  · exact .inr (apart h.own h.out (by decide))
  · exact .inr (apart h.ex h.out (by decide))
end

/-- what is drawn while one more is laid: where it lies ahead, and the row behind it -/
structure G where
  h : Nat
  v : Value
def ws (s m b0 bc n5 k : Nat) (v : Value) (x y z : ByteArray) (g : G) : List (Nat × Value) := [(27, .pointer (some ⟨n5, 1, none⟩)), (28, v), (29, .pointer (some ⟨s, 1, none⟩)), (30, .slice (some ⟨b0, 0, none⟩) m bc), (31, .int .i64 k), (32, .pointer (some ⟨b0, k * 3, none⟩)), (33, .agg #[.string x, .string y, .string z]), (34, .slice (some ⟨g.h, 0, none⟩) 1 1), (35, g.v), (36, .pointer (some ⟨n5, 1, none⟩))]
structure D (w : World) (es : List Ex) (bs : List Bi) (a0 b0 ec bc n5 : Nat) (ev v : Value) (l : List Bi) (k : Nat) (x y z : ByteArray) (g : G) (b1 b7 b8 b10 : Bool) (W : World) : Prop where
  si : SI w es bs a0 b0 ec bc n5 ev (if b8 then g.v else v) (if b10 then g.v else v) (if b8 then l ++ [⟨x, y, z⟩] else l) W
  at7 : b7 = true → b8 = false → W.heap[g.h]? = some (.cells #[.string x, .string y, .string z] 61 (0, 0))
  at8 : b8 = true → b1 = true ∧ b7 = true
  at10 : b10 = true → b8 = true
def C (w : World) (es : List Ex) (bs : List Bi) (a0 b0 ec bc n5 : Nat) (ev v : Value) (l : List Bi) (k : Nat) (x y z : ByteArray) (g : G) (L : Nat → Bool) (W : World) : Prop := D w es bs a0 b0 ec bc n5 ev v l k x y z g (L 1) (L 7) (L 8) (L 10) W
section
variable {w : World} {es : List Ex} {bs : List Bi} {a0 b0 ec bc n5 : Nat} {ev v : Value} {l : List Bi} {k : Nat} {x y z : ByteArray} {act : Act} {Q : Exit → Act → World → Prop}
theorem quiet {i : Nat} {o : Oper} (h7 : i ≠ 7) (h8 : i ≠ 8) (h10 : i ≠ 10) (hsel : ∀ cs b, o.op ≠ .select cs b) (u : Value) (hd : ∀ s d, o.dst = some d → (dk.sets act (ws w.heap.size bs.length b0 bc n5 k v x y z s)).tmps[d]? = some u)
    (hrun : ∀ s L W, L i = false → C w es bs a0 b0 ec bc n5 ev v l k x y z s L W → (execOp (dk.sets act (ws w.heap.size bs.length b0 bc n5 k v x y z s)).eval o).run Try.prog W = .ok (.value u) W) :
    gh.Step Try.prog (fun s => dk.sets act (ws w.heap.size bs.length b0 bc n5 k v x y z s)) (C w es bs a0 b0 ec bc n5 ev v l k x y z) Q i o := by
  refine gh.step_val hsel fun s L W hdp h0 hC => ⟨s, u, gh.Agree.refl _ _, hd s, ?_⟩
  rw [hrun s L W h0 hC]
  refine ⟨rfl, ?_⟩
  have hC : D w es bs a0 b0 ec bc n5 ev v l k x y z s (L 1) (L 7) (L 8) (L 10) W := hC
  unfold C dn.more
  rw [if_neg (Ne.symm h7), if_neg (Ne.symm h8), if_neg (Ne.symm h10)]
  refine ⟨hC.si, hC.at7, fun e => ⟨?_, (hC.at8 e).2⟩, hC.at10⟩
  split
  · rfl
  · exact (hC.at8 e).1
theorem st7 {o : Oper} (hsz : 36 < act.tmps.size) (hop : o.op = .buildSlice 28 1 #[(0, .tmp 33)]) (hdst : o.dst = some 34) :
    gh.Step Try.prog (fun s => dk.sets act (ws w.heap.size bs.length b0 bc n5 k v x y z s)) (C w es bs a0 b0 ec bc n5 ev v l k x y z) Q 7 o := by
  refine gh.step_val (by rw [hop]; simp) fun s L W hdp h0 hC => ⟨{ s with h := W.heap.size }, .slice (some ⟨W.heap.size, 0, none⟩) 1 1, dk.agree_sets 7 34 _ hdst rfl rfl, (fun d hd => by rw [hdst] at hd; cases hd; exact dk.sets_on _ (by omega) _ rfl), ?_⟩
  have e33 : (dk.sets act (ws w.heap.size bs.length b0 bc n5 k v x y z s)).tmps[33]? = some (.agg #[.string x, .string y, .string z]) := dk.sets_on _ (by omega) _ rfl
  have hrun : (execOp (dk.sets act (ws w.heap.size bs.length b0 bc n5 k v x y z s)).eval o).run Try.prog W = .ok (.value (.slice (some ⟨W.heap.size, 0, none⟩) 1 1)) (W.alloc (.cells #[.string x, .string y, .string z] 61)) := by
    simp [execOp, hop, e33, go_sem]
  rw [hrun]
  refine ⟨rfl, ?_⟩
  have hC : D w es bs a0 b0 ec bc n5 ev v l k x y z s (L 1) (L 7) (L 8) (L 10) W := hC
  show D w es bs a0 b0 ec bc n5 ev v l k x y z _ (L 1) true (L 8) (L 10) _
  have h8 : L 8 = false := by
    cases h : L 8 with
    | false => rfl
    | true => have := (hC.at8 h).2; rw [h0] at this; cases this
  have h10 : L 10 = false := by
    cases h : L 10 with
    | false => rfl
    | true => have := hC.at10 h; rw [h8] at this; cases this
  have hsi := hC.si
  rw [h8, h10] at hsi ⊢
  exact ⟨hsi.on ((Below.refl _ _).alloc (Nat.le_refl _) _), fun _ _ => bnew W _ _, fun e => (by cases e), fun e => (by cases e)⟩
theorem infoB : ∃ i0, Try.prog.info? 61 = some i0 ∧ i0.zero = some (.agg #[.string ByteArray.empty, .string ByteArray.empty, .string ByteArray.empty]) ∧ i0.size = 3 ∧ i0.bytes = 48 := by
  have h := rt.infoB
  cases hh : Try.prog.info? 61 with
  | none => rw [hh] at h; cases h
  | some i => rw [hh] at h; simp at h; exact ⟨i, rfl, h.1, h.2.1, h.2.2⟩
theorem infoE : ∃ i0, Try.prog.info? 49 = some i0 ∧ i0.zero = some (.agg #[.string ByteArray.empty, .int .i64 0]) ∧ i0.size = 2 ∧ i0.bytes = 24 := by
  have h := rt.infoE
  cases hh : Try.prog.info? 49 with
  | none => rw [hh] at h; cases h
  | some i => rw [hh] at h; simp at h; exact ⟨i, rfl, h.1, h.2.1, h.2.2⟩
theorem st8 {o : Oper} (hl : l.length ≤ 1048576) (hsz : 36 < act.tmps.size) (hop : o.op = .call { callee := .builtin .append, args := #[.tmp 28, .tmp 34], argTypes := #[28, 28] }) (hdst : o.dst = some 35) (hd1 : ∃ e ∈ o.after, Region.binds .any e = true ∧ e.on = 1) (hd7 : ∃ e ∈ o.after, Region.binds .any e = true ∧ e.on = 7) :
    gh.Step Try.prog (fun s => dk.sets act (ws w.heap.size bs.length b0 bc n5 k v x y z s)) (C w es bs a0 b0 ec bc n5 ev v l k x y z) Q 8 o := by
  refine gh.step_val (by rw [hop]; simp) fun s L W hdp h0 hC => ?_
  obtain ⟨x1, m1, y1, z1⟩ := hd1
  obtain ⟨x7, m7, y7, z7⟩ := hd7
  have l1 := hdp x1 m1 y1
  have l7 := hdp x7 m7 y7
  rw [z1] at l1
  rw [z7] at l7
  have hC : D w es bs a0 b0 ec bc n5 ev v l k x y z s (L 1) (L 7) (L 8) (L 10) W := hC
  have h10 : L 10 = false := by
    cases h : L 10 with
    | false => rfl
    | true => have := hC.at10 h; rw [h0] at this; cases this
  have hsi := hC.si
  have hat := hC.at7 l7 h0
  rw [h0, h10] at hsi
  simp only [Bool.false_eq_true, if_false] at hsi
  obtain ⟨i0, hi, hz0, hz1, hz2⟩ := infoB
  obtain ⟨v', w', hr, ho, hg, _⟩ := run_append_own (P := Try.prog) W (w.heap.size + 2) 28 o.type 61 i0 _ 3 48 Try.underlying28 hi hz0 hz1 hz2 rfl (by omega) v l.length (l.flatMap cB) hsi.own
    ⟨s.h, 0, none⟩ 1 1 [.string x, .string y, .string z] rfl (fun j u hu => by
      match j, hu with
      | 0, hu => simp at hu; subst hu; exact bcell hat rfl
      | 1, hu => simp at hu; subst hu; exact bcell hat rfl
      | 2, hu => simp at hu; subst hu; exact bcell hat rfl
      | j + 3, hu => simp at hu) (by simp [Value.oneCell']) (by unfold maxLen; omega) (by omega) (by have := (Array.getElem?_eq_some_iff.1 hsi.res).1; omega)
  refine ⟨{ s with v := v' }, v', dk.agree_sets 8 35 _ hdst rfl rfl, (fun d hd => by rw [hdst] at hd; cases hd; exact dk.sets_on _ (by omega) _ rfl), ?_⟩
  have e28 : (dk.sets act (ws w.heap.size bs.length b0 bc n5 k v x y z s)).eval (.tmp 28) = v := dk.eval_on _ _ (by omega) rfl
  have e34 : (dk.sets act (ws w.heap.size bs.length b0 bc n5 k v x y z s)).eval (.tmp 34) = .slice (some ⟨s.h, 0, none⟩) 1 1 := dk.eval_on _ _ (by omega) rfl
  have hrun : (execOp (dk.sets act (ws w.heap.size bs.length b0 bc n5 k v x y z s)).eval o).run Try.prog W = .ok (.value v') w' := by
    unfold execOp
    simp only [hop, resolve, invoke, builtin, Sem.run_bind, Sem.run_pure, Result.andThen_ok, List.map_toArray, List.map_cons, List.map_nil, e28, e34, hr]
  rw [hrun]
  refine ⟨rfl, ?_⟩
  show D w es bs a0 b0 ec bc n5 ev v l k x y z _ (L 1) (L 7) true (L 10) _
  rw [h10]
  refine ⟨?_, fun _ e => (by cases e), fun _ => ⟨l1, l7⟩, fun e => (by cases e)⟩
  simp only [Bool.false_eq_true, if_false, if_true]
  refine hsi.grow hg ?_
  rw [List.flatMap_append, List.length_append]
  exact ho
theorem st10 {o : Oper} (hsz : 36 < act.tmps.size) (hop : o.op = .store 28 (.tmp 36) (.tmp 35)) (hdst : o.dst = none) (hd8 : ∃ e ∈ o.after, Region.binds .any e = true ∧ e.on = 8) :
    gh.Step Try.prog (fun s => dk.sets act (ws w.heap.size bs.length b0 bc n5 k v x y z s)) (C w es bs a0 b0 ec bc n5 ev v l k x y z) Q 10 o := by
  refine gh.step_val (by rw [hop]; simp) fun s L W hdp h0 hC => ⟨s, undef, gh.Agree.refl _ _, (fun d hd => by rw [hdst] at hd; cases hd), ?_⟩
  have e36 : (dk.sets act (ws w.heap.size bs.length b0 bc n5 k v x y z s)).tmps[36]? = some (.pointer (some ⟨n5, 1, none⟩)) := dk.sets_on _ (by omega) _ rfl
  have e35 : (dk.sets act (ws w.heap.size bs.length b0 bc n5 k v x y z s)).tmps[35]? = some s.v := dk.sets_on _ (by omega) _ rfl
  obtain ⟨x8, m8, y8, z8⟩ := hd8
  have l8 := hdp x8 m8 y8
  rw [z8] at l8
  have hC : D w es bs a0 b0 ec bc n5 ev v l k x y z s (L 1) (L 7) (L 8) (L 10) W := hC
  have hsi := hC.si
  rw [l8, h0] at hsi
  simp only [Bool.false_eq_true, if_false, if_true] at hsi
  have c1 : W.cell? ⟨n5, 1, none⟩ = some v := bcell hsi.out rfl
  have f1 := bfree hsi.out 1
  obtain ⟨a, cap, hsv, _⟩ := own_row cB_len hsi.own
  have hrun : (execOp (dk.sets act (ws w.heap.size bs.length b0 bc n5 k v x y z s)).eval o).run Try.prog W = .ok .skip (W.setCell ⟨n5, 1, none⟩ s.v) := by
    rw [hsv] at e35 ⊢
    simp [execOp, hop, e36, e35, go_sem, c1, f1]
  rw [hrun]
  refine ⟨rfl, ?_⟩
  show D w es bs a0 b0 ec bc n5 ev v l k x y z _ (L 1) (L 7) (L 8) true _
  rw [l8]
  refine ⟨?_, fun _ e => (by cases e), fun _ => hC.at8 l8, fun _ => rfl⟩
  simp only [if_true]
  exact hsi.put
end
theorem se_row {W : World} {B : Nat} {a : Option Addr} {es : List Ex} (h : Row cE 2 W B a es) : SE W B a es := by
  rcases h with h | ⟨b, off, ha, hlt, hc⟩
  · exact .inl h
  · exact .inr ⟨b, off, ha, hlt, fun i e he => ⟨hc i e he 0 _ rfl, hc i e he 1 _ rfl⟩⟩
theorem sb_row {W : World} {B : Nat} {a : Option Addr} {bs : List Bi} (h : Row cB 3 W B a bs) : SB W B a bs := by
  rcases h with h | ⟨b, off, ha, hlt, hc⟩
  · exact .inl h
  · exact .inr ⟨b, off, ha, hlt, fun i e he => ⟨hc i e he 0 _ rfl, hc i e he 1 _ rfl, hc i e he 2 _ rfl⟩⟩

set_option maxRecDepth 100000 in
set_option maxHeartbeats 2000000 in
theorem spec_unbind (q : ByteArray) (es : List Ex) (bs : List Bi) (a0 b0 ec bc : Nat) (w : World) (hel : es.length ≤ 1048576) (hbl : bs.length ≤ 1048576) (hE : RE w a0 es) (hB : RB w b0 bs) :
    Calls Try.prog 15 #[.agg #[.slice (some ⟨a0, 0, none⟩) es.length ec, .slice (some ⟨b0, 0, none⟩) bs.length bc], .string q] w fun r w' => ∃ ea ba ce cb, r = .returned (.agg #[.slice ea es.length ce, .slice ba (bs.filter fun b => !mine q b).length cb]) ∧ SE w' w'.heap.size ea es ∧ SB w' w'.heap.size ba (bs.filter fun b => !mine q b) ∧ Below w.heap.size w w' := by
  have HE : Hid (RE w a0 es) := hE
  have HB : Hid (RB w b0 bs) := hB
  obtain ⟨i0, hi, hz0, hz1, hz2⟩ := infoE
  have hb0 : Below w.heap.size w (((w.alloc (.cells #[.slice (some ⟨a0, 0, none⟩) es.length ec, .slice (some ⟨b0, 0, none⟩) bs.length bc] 30)).alloc (.cells #[.slice none 0 0, .slice none 0 0] 30)).alloc (.cells #[] 49)) := (((Below.refl _ _).alloc (Nat.le_refl _) _).alloc (by simp) _).alloc (by simp; omega) _
  have hbox := bold (bold (bnew w #[.slice (some ⟨a0, 0, none⟩) es.length ec, .slice (some ⟨b0, 0, none⟩) bs.length bc] 30) (.cells #[.slice none 0 0, .slice none 0 0] 30)) (.cells #[] 49)
  have hres := bold (bnew (w.alloc (.cells #[.slice (some ⟨a0, 0, none⟩) es.length ec, .slice (some ⟨b0, 0, none⟩) bs.length bc] 30)) #[.slice none 0 0, .slice none 0 0] 30) (.cells #[] 49)
  rw [World.size_alloc] at hres
  have hown0 : (((w.alloc (.cells #[.slice (some ⟨a0, 0, none⟩) es.length ec, .slice (some ⟨b0, 0, none⟩) bs.length bc] 30)).alloc (.cells #[.slice none 0 0, .slice none 0 0] 30)).alloc (.cells #[] 49)).ownsRow (w.heap.size + 2) 49 2 (.slice (some ⟨w.heap.size + 1 + 1, 0, none⟩) 0 0) 0 [] := by
    have := World.ownsRow_made (base := w.heap.size + 2) (e := 49) (size := 2) ((w.alloc (.cells #[.slice (some ⟨a0, 0, none⟩) es.length ec, .slice (some ⟨b0, 0, none⟩) bs.length bc] 30)).alloc (.cells #[.slice none 0 0, .slice none 0 0] 30)) #[] 0 (by simp) (by unfold maxLen; omega) (by simp)
    rw [World.size_alloc, World.size_alloc] at this
    exact this
  have hnews : ∀ (W : World), Below w.heap.size w W → ∀ j u, (es.flatMap cE)[j]? = some u → W.cell? ((⟨a0, 0, none⟩ : Addr).add j) = some u := fun W hW j u hu => by
    obtain ⟨i, e, r, h1, h2, h3⟩ := flat_get cE_len es j u hu
    obtain ⟨c0, c1⟩ := (HE.out.below hW).2 i e h1
    rw [show (⟨a0, 0, none⟩ : Addr).add j = ⟨a0, j, none⟩ by unfold Addr.add; split <;> simp_all, h3]
    match r, h2 with
    | 0, h2 => simp [cE] at h2; subst h2; exact c0
    | 1, h2 => simp [cE] at h2; subst h2; exact c1
    | r + 2, h2 => simp [cE] at h2
  have h1c : ∀ u ∈ es.flatMap cE, u.oneCell' = true := fun u hu => by
    obtain ⟨e, _, he⟩ := List.mem_flatMap.1 hu
    simp [cE] at he
    rcases he with rfl | rfl <;> rfl
  obtain ⟨W, hW⟩ : ∃ W, ((w.alloc (.cells #[.slice (some ⟨a0, 0, none⟩) es.length ec, .slice (some ⟨b0, 0, none⟩) bs.length bc] 30)).alloc (.cells #[.slice none 0 0, .slice none 0 0] 30)).alloc (.cells #[] 49) = W := ⟨_, rfl⟩
  rw [hW] at hb0 hbox hres hown0
  have hsz := (Array.getElem?_eq_some_iff.1 hres).1
  have step1 : ∀ ev w1, w1.ownsRow (w.heap.size + 2) 49 2 ev (0 + es.length) ([] ++ es.flatMap cE) → W.grownBy w1 (Value.slice (some ⟨w.heap.size + 1 + 1, 0, none⟩) 0 0).ownBlock →
      ∃ ea ce, ev = .slice ea es.length ce ∧ Hid (SI w es bs a0 b0 ec bc w1.heap.size (.slice ea es.length ce) (.slice none 0 0) (.slice none 0 0) [] (w1.alloc (.cells #[.slice ea es.length ce, .slice none 0 0] 30))) := by
    intro ev w1 ho1 hg1
    rw [Nat.zero_add, List.nil_append] at ho1
    obtain ⟨ea, ce, rfl, _⟩ := own_row cE_len ho1
    have hownb : ∀ b, (Value.slice (some ⟨w.heap.size + 1 + 1, 0, none⟩) 0 0).ownBlock = some b → b = w.heap.size + 1 + 1 := fun b hb => by simp [Value.ownBlock] at hb; exact hb.symm
    have hbel1 : Below w.heap.size w w1 := hb0.grown hg1 hb0.size fun b hb => by have := hownb b hb; omega
    have hbox1 : w1.heap[w.heap.size]? = some (.cells #[.slice (some ⟨a0, 0, none⟩) es.length ec, .slice (some ⟨b0, 0, none⟩) bs.length bc] 30 (0, 0)) := by
      rw [hg1.block _ (by omega) (fun e => by have := hownb _ e.symm; omega)]; exact hbox
    have hres1 : w1.heap[w.heap.size + 1]? = some (.cells #[.slice none 0 0, .slice none 0 0] 30 (0, 0)) := by
      rw [hg1.block _ (by omega) (fun e => by have := hownb _ e.symm; omega)]; exact hres
    have hal : Below w1.heap.size w1 (w1.alloc (.cells #[.slice ea es.length ce, .slice none 0 0] 30)) := (Below.refl _ _).alloc (Nat.le_refl _) _
    have := (Array.getElem?_eq_some_iff.1 hres1).1
    exact ⟨ea, ce, rfl, hbel1.trans (hal.mono hbel1.size), bold hbox1 _, bold hres1 _, bnew w1 _ _, World.ownsRow_nil _ _ _ _, own_stays ho1 hal, by omega⟩
  have x0 : W.cell? ⟨w.heap.size, 0, none⟩ = some (.slice (some ⟨a0, 0, none⟩) es.length ec) := bcell hbox rfl
  have hn1 := hnews W hb0
  have hle : w.heap.size + 2 ≤ W.heap.size := by omega
  clear hres hbox hb0 hE hB hnews hsz
  go_enter Try.func15, Try.ntmps15
  go_wp2_with (at_builtin; refine wpList_append_own _ rfl (.tmp 7) (.tmp 9) 27 rfl (w.heap.size + 2) 49 i0 _ 2 24 Try.underlying27 hi hz0 hz1 hz2 rfl (by omega) _ 0 [] rfl hown0 ⟨a0, 0, none⟩ es.length ec (es.flatMap cE) rfl (flat_len cE_len es) hn1 h1c (by unfold maxLen; omega) (by omega) hle ?_; intro ev w1 ho1 hg1 _; obtain ⟨ea, ce, rfl, HI⟩ := step1 ev w1 ho1 hg1; clear ho1 hg1)
  clear hW step1 hn1 h1c hown0 x0 hi hz0 hz1 hz2 hle
  go_loopw [6] (fun x wr => ∃ (k : Nat) (v : Value), k ≤ bs.length ∧ x = .int .i64 k ∧ Hid (SI w es bs a0 b0 ec bc w1.heap.size (.slice ea es.length ce) v v (K q bs k) wr)) (fun x _ => bs.length - (intOf x).toNat)
  case atStart => exact ⟨0, _, Nat.zero_le _, rfl, HI⟩
  case round =>
    obtain ⟨k, v, hk, rfl, hinv⟩ := hrel
    clear HI
    have y1 : wr.cell? ⟨w.heap.size, 1, none⟩ = some (.slice (some ⟨b0, 0, none⟩) bs.length bc) := bcell hinv.out.box rfl
    obtain ⟨n5, hn5⟩ : ∃ n5, w1.heap.size = n5 := ⟨_, rfl⟩
    rw [hn5] at hinv ⊢
    clear hn5
    by_cases hkl : k < bs.length
    · have HG : Hid (bs[k]? = some bs[k]) := List.getElem?_eq_getElem hkl
      have hR := HB.out.below hinv.out.bel
      obtain ⟨c0, c1, c2⟩ := hR.2 k _ HG.out
      have HKN := fun b h => K_next (q := q) (bs := bs) (j := k) (b := b) h
      have HKL := K_len q bs k
      obtain ⟨⟨x, y, z⟩, he⟩ : ∃ e, bs[k] = e := ⟨_, rfl⟩
      rw [he] at c0 c1 c2 HG
      have HK1 : Hid (K q bs (k + 1) = if mine q ⟨x, y, z⟩ then K q bs k else K q bs k ++ [⟨x, y, z⟩]) := HKN _ HG.out
      have c0 : wr.cell? ⟨b0, k * 3, none⟩ = some (.string x) := c0
      have c1 : wr.cell? ⟨b0, k * 3 + 1, none⟩ = some (.string y) := c1
      have c2 : wr.cell? ⟨b0, k * 3 + 2, none⟩ = some (.string z) := c2
      have HRB : Hid (RB wr b0 bs) := hR
      clear he HKN hR
      cases hm : mine q ⟨x, y, z⟩ with
      | true =>
        rw [hm] at HK1
        have hz : (z.toList == q.toList) = true := hm
        have hz' : (!z.toList == q.toList) = false := by rw [hz]; rfl
        clear hm hz
        go_wp2
        go_roundw
        case rel =>
          have hx : K q bs (k + 1) = K q bs k := by simpa using HK1.out
          exact ⟨k + 1, v, by omega, by go_num, by unfold Hid; rw [hx]; exact hinv.out⟩
        case measure => simp [intOf]; omega
      | false =>
        rw [hm] at HK1
        have hz : (z.toList == q.toList) = false := hm
        have hz' : (!z.toList == q.toList) = true := by rw [hz]; rfl
        clear hm hz
        go_wp2
        have hd0 : D w es bs a0 b0 ec bc n5 (.slice ea es.length ce) v (K q bs k) k x y z ⟨0, .slice none 0 0⟩ false false false false wr.drew := ⟨hinv.out.on (Below.refl _ _).drew, fun e => (by cases e), fun e => (by cases e), fun e => (by cases e)⟩
        refine dk.region_gsets (ws w.heap.size bs.length b0 bc n5 k v x y z) [27, 28, 29, 30, 31, 32, 33, 34, 35, 36] (C w es bs a0 b0 ec bc n5 (.slice ea es.length ce) v (K q bs k) k x y z) ⟨0, .slice none 0 0⟩ (by kernel_rfl) (by kernel_rfl) (fun _ => rfl) (by kernel_rfl) hd0 ?each ?fin
        case each =>
          refine ⟨quiet (by decide) (by decide) (by decide) (by simp) (.pointer (some ⟨n5, 1, none⟩)) (by rintro s _ ⟨⟩; exact dk.sets_on _ (by simp) _ rfl) (fun s L W h0 hC => by simp [execOp, go_sem, Act.eval, dk.sets_get, ws, List.lookup]), ?_⟩
          refine ⟨quiet (by decide) (by decide) (by decide) (by simp) (v) (by rintro s _ ⟨⟩; exact dk.sets_on _ (by simp) _ rfl) (fun s L W h0 hC => by have hC : D w es bs a0 b0 ec bc n5 (.slice ea es.length ce) v (K q bs k) k x y z s (L 1) (L 7) (L 8) (L 10) W := hC; have h8 : L 8 = false := (by cases h : L 8 with | false => rfl | true => (have := (hC.at8 h).1; rw [h0] at this; cases this)); have h10 : L 10 = false := (by cases h : L 10 with | false => rfl | true => (have := hC.at10 h; rw [h8] at this; cases this)); have hs := hC.si; rw [h8, h10] at hs; have c : W.cell? ⟨n5, 1, none⟩ = some v := bcell hs.out rfl; simp [execOp, go_sem, Act.eval, dk.sets_get, ws, List.lookup, c]), ?_⟩
          refine ⟨quiet (by decide) (by decide) (by decide) (by simp) (.pointer (some ⟨w.heap.size, 1, none⟩)) (by rintro s _ ⟨⟩; exact dk.sets_on _ (by simp) _ rfl) (fun s L W h0 hC => by simp [execOp, go_sem, Act.eval, dk.sets_get, ws, List.lookup]), ?_⟩
          refine ⟨quiet (by decide) (by decide) (by decide) (by simp) (.slice (some ⟨b0, 0, none⟩) bs.length bc) (by rintro s _ ⟨⟩; exact dk.sets_on _ (by simp) _ rfl) (fun s L W h0 hC => by have c : W.cell? ⟨w.heap.size, 1, none⟩ = some (.slice (some ⟨b0, 0, none⟩) bs.length bc) := bcell hC.si.box rfl; simp [execOp, go_sem, Act.eval, dk.sets_get, ws, List.lookup, c]), ?_⟩
          refine ⟨quiet (by decide) (by decide) (by decide) (by simp) (.int .i64 k) (by rintro s _ ⟨⟩; exact dk.sets_on _ (by simp) _ rfl) (fun s L W h0 hC => by simp [execOp, go_sem, Act.eval, dk.sets_get, ws, List.lookup]), ?_⟩
          refine ⟨quiet (by decide) (by decide) (by decide) (by simp) (.pointer (some ⟨b0, k * 3, none⟩)) (by rintro s _ ⟨⟩; exact dk.sets_on _ (by simp) _ rfl) (fun s L W h0 hC => by simp [execOp, go_sem, Act.eval, dk.sets_get, ws, List.lookup, hkl]), ?_⟩
          refine ⟨quiet (by decide) (by decide) (by decide) (by simp) (.agg #[.string x, .string y, .string z]) (by rintro s _ ⟨⟩; exact dk.sets_on _ (by simp) _ rfl) (fun s L W h0 hC => by obtain ⟨d0, d1, d2⟩ := (HB.out.below hC.si.bel).2 k _ HG.out; have d0 : W.cell? ⟨b0, k * 3, none⟩ = some (.string x) := d0; have d1 : W.cell? ⟨b0, k * 3 + 1, none⟩ = some (.string y) := d1; have d2 : W.cell? ⟨b0, k * 3 + 2, none⟩ = some (.string z) := d2; simp [execOp, go_sem, Act.eval, dk.sets_get, ws, List.lookup, d0, d1, d2]), ?_⟩
          refine ⟨st7 (by simp) rfl rfl, ?_⟩
          refine ⟨st8 (by omega) (by simp) rfl rfl ⟨⟨1, .data⟩, by simp, rfl, rfl⟩ ⟨⟨7, .data⟩, by simp, rfl, rfl⟩, ?_⟩
          refine ⟨quiet (by decide) (by decide) (by decide) (by simp) (.pointer (some ⟨n5, 1, none⟩)) (by rintro s _ ⟨⟩; exact dk.sets_on _ (by simp) _ rfl) (fun s L W h0 hC => by simp [execOp, go_sem, Act.eval, dk.sets_get, ws, List.lookup]), ?_⟩
          exact ⟨st10 (by simp) rfl rfl ⟨⟨8, .data⟩, by simp, rfl, rfl⟩, trivial⟩
        case fin =>
          intro g L W2 hL hC
          have hD : D w es bs a0 b0 ec bc n5 (.slice ea es.length ce) v (K q bs k) k x y z g true true true true W2 := by
            have h : D w es bs a0 b0 ec bc n5 (.slice ea es.length ce) v (K q bs k) k x y z g (L 1) (L 7) (L 8) (L 10) W2 := hC
            rw [hL 1 (by decide), hL 7 (by decide), hL 8 (by decide), hL 10 (by decide)] at h
            exact h
          have HI : Hid (SI w es bs a0 b0 ec bc n5 (.slice ea es.length ce) g.v g.v (K q bs k ++ [⟨x, y, z⟩]) W2) := by
            have := hD.si
            simp only [if_true] at this
            exact this
          clear hC hD hL hd0 y1 c0 c1 c2
          simp only [dk.sets, ws]
          go_wp2
          go_roundw
          case rel =>
            have hx : K q bs (k + 1) = K q bs k ++ [⟨x, y, z⟩] := by simpa using HK1.out
            exact ⟨k + 1, g.v, by omega, by go_num, by unfold Hid; rw [hx]; exact HI.out⟩
          case measure => simp [intOf]; omega
    · obtain rfl : k = bs.length := by omega
      obtain ⟨ba, cb, hvv, hrow⟩ := own_row cB_len hinv.out.own
      obtain ⟨ea2, ce2, hev, hrowE⟩ := own_row cE_len hinv.out.ex
      obtain ⟨rfl, rfl⟩ : ea2 = ea ∧ ce2 = ce := by simp at hev; exact ⟨hev.1.symm, hev.2.symm⟩
      subst hvv
      have o0 : wr.cell? ⟨n5, 0, none⟩ = some (.slice ea2 es.length ce2) := bcell hinv.out.out rfl
      have o1 : wr.cell? ⟨n5, 1, none⟩ = some (.slice ba (K q bs bs.length).length cb) := bcell hinv.out.out rfl
      have r0 : wr.cell? ⟨w.heap.size + 1, 0, none⟩ = some (.slice none 0 0) := bcell hinv.out.res rfl
      have r1 : wr.cell? ⟨w.heap.size + 1, 1, none⟩ = some (.slice none 0 0) := bcell hinv.out.res rfl
      have f0 := bfree hinv.out.res 0
      have f1 := bfree hinv.out.res 1
      have HRW : Hid (Row cB 3 wr wr.heap.size ba (K q bs bs.length)) := hrow
      have HRE : Hid (Row cE 2 wr wr.heap.size ea2 es) := hrowE
      have HNB : Hid (∀ b off, ba = some ⟨b, off, none⟩ → b ≠ w.heap.size + 1) := fun b off e => by
        have := (hinv.out.own.lt b (by rw [e]; rfl)).1
        omega
      have HNE : Hid (∀ b off, ea2 = some ⟨b, off, none⟩ → b ≠ w.heap.size + 1) := fun b off e => by
        have := (hinv.out.ex.lt b (by rw [e]; rfl)).1
        omega
      clear hrow hrowE hev
      go_wp2
      refine bodyPost_ret (v := .agg #[.slice ea2 es.length ce2, .slice ba (K q bs bs.length).length cb]) (by simp [results, Try.results15, go_sem, r0, r1]) rfl ?_
      rw [← K_all]
      refine ⟨ea2, ba, ce2, cb, rfl, ?_, ?_, ?_⟩
      · exact se_row ((HRE.out.set HNE.out _).set HNE.out _)
      · exact sb_row ((HRW.out.set HNB.out _).set HNB.out _)
      · exact (hinv.out.bel.setCell (by show w.heap.size ≤ w.heap.size + 1; omega) _).setCell (by show w.heap.size ≤ w.heap.size + 1; omega) _
end Go.Proofs.Ytgfifjiidmfojaa.su
