/- The specification's draw of a plain key. -/
import Derived.Test.YtnooibeohdfcmaaGreatDoorRw08
import Derived.Test.YtnooibeohdfcmaaGreatDoorDoneKit
import Derived.Laws.CopyRow
import Derived.Test.YtnooibeohdfcmaaGreatDoorRw06
import Derived.Test.YtnooibeohdfcmaaGreatDoorRw07
import Derived.Deep.RegionWith
import Derived.Test.YtnooibeohdfcmaaGreatDoorDrawBase

/- copy at rows of structures, and the ways that copy and append(s, make(S, n)...) go in a walk. -/
namespace Go.Proofs.YtnooibeohdfcmaaGreatDoor.cpr
open Go.RowKit
set_option linter.unusedVariables false

theorem run_copy_rows {P : Program} (w : World) (dT sT ty elem : TypeId) (i : TypeInfo) (g o dLen dCap : Nat) (a : Addr) (sLen sCap : Nat) (cur : Array Value) (t : TypeId) (cs : List Value)
    (hu : P.underlying dT = some (.slice elem)) (hi : P.info? elem = some i)
    (hg : w.heap[g]? = some (.cells cur t (0, 0))) (hn : cs.length = Nat.min sLen dLen * i.size)
    (hsrc : ∀ j v, cs[j]? = some v → w.cell? (a.add j) = some v) (hfit : o + cs.length ≤ cur.size) (h1 : ∀ v ∈ cs, v.oneCell' = true) :
    (Builtin.copy_ #[dT, sT] ty #[.slice (some ⟨g, o, none⟩) dLen dCap, .slice (some a) sLen sCap]).run P w =
      .ok (goInt (Nat.min sLen dLen)) (w.setRow g (cur.toList.take o ++ cs ++ cur.toList.drop (o + cs.length)).toArray) := by
  have hl := run_loadCells_list (P := P) w a cs hsrc
  have hst := run_storeCells_at P g o t cs 0 cur w hg (by simpa using hfit) h1
  simp [Builtin.copy_, run_underlying hu, Builtin.lenOf, Builtin.firstCells, sizeOf, typeInfo, hi, ← hn, hl, hst]
theorem wpList_copy_run {P : Program} {w w' : World} {ops : Array Oper} {rest : List Oper} {o : Oper} {a : Act} {Q : Exit → Act → World → Prop} (hgd : o.guard = none) (d s : Operand) (t t' : TypeId)
    (ho : o.op = .call { callee := .builtin .copy, args := #[d, s], argTypes := #[t, t'] }) (dv sv v : Value) (hd : a.eval d = dv) (hs : a.eval s = sv) (hrun : (Builtin.copy_ #[t, t'] o.type #[dv, sv]).run P w = .ok v w')
    (h : wpList P ops Q rest (a.put o.dst v) w') : wpList P ops Q (o :: rest) a w := by
  refine wpList_plain hgd fun K hK => ?_
  unfold Oper.wp
  simp [execOp, ho, resolve, invoke, builtin, hd, hs, hrun, Result.andThen]
  exact hK _ _ h
theorem wpList_append_run {P : Program} {w w' : World} {ops : Array Oper} {rest : List Oper} {o : Oper} {a : Act} {Q : Exit → Act → World → Prop} (hgd : o.guard = none) (d s : Operand) (t t' : TypeId)
    (ho : o.op = .call { callee := .builtin .append, args := #[d, s], argTypes := #[t, t'] }) (dv sv v : Value) (hd : a.eval d = dv) (hs : a.eval s = sv) (hrun : (Builtin.append_ #[t, t'] o.type #[dv, sv]).run P w = .ok v w')
    (h : wpList P ops Q rest (a.put o.dst v) w') : wpList P ops Q (o :: rest) a w := by
  refine wpList_plain hgd fun K hK => ?_
  unfold Oper.wp
  simp [execOp, ho, resolve, invoke, builtin, hd, hs, hrun, Result.andThen]
  exact hK _ _ h
theorem lastv {P : Program} {fin : Act} {D : Bool → World → Prop} {k : Nat} {o : Oper} (v : Value) (hd : ∀ d, o.dst = some d → fin.tmps[d]? = some v) (hrun : ∀ W, D false W → ∃ W', (execOp fin.eval o).run P W = .ok (.value v) W' ∧ D true W') : dn.Step P fin (dk.Cl D k) k o := by
  intro L W _ h0 hC
  have hC' : D false W := by unfold dk.Cl at hC; rw [h0] at hC; exact hC
  obtain ⟨W', h1, h2⟩ := hrun W hC'
  refine ⟨v, hd, ?_⟩
  rw [h1]
  exact ⟨rfl, by unfold dk.Cl dn.more; rw [if_pos rfl]; exact h2⟩
end Go.Proofs.YtnooibeohdfcmaaGreatDoor.cpr

/- The specification's draw of routes. -/
namespace Go.Proofs.YtnooibeohdfcmaaGreatDoor.dtr
open Go.ChangeShapes Go.WideShapes Go.ChangeAt Go.RowKit Go.Proofs.YtnooibeohdfcmaaGreatDoor.fl Go.Proofs.YtnooibeohdfcmaaGreatDoor.dw Go.Proofs.YtnooibeohdfcmaaGreatDoor.rr Go.Proofs.YtnooibeohdfcmaaGreatDoor.ro Go.Proofs.YtnooibeohdfcmaaGreatDoor.su Go.Proofs.YtnooibeohdfcmaaGreatDoor.rwy Go.Proofs.YtnooibeohdfcmaaGreatDoor.dlr
set_option linter.unusedVariables false

def keysX : List ByteArray := [⟨#[120]⟩, ⟨#[121]⟩, ⟨#[122]⟩]
theorem keysX_in : ∀ z ∈ keysX, z.size ≤ 1 := by decide
def keys3 : List ByteArray := [⟨#[113]⟩, ⟨#[114]⟩, ⟨#[115]⟩]
theorem keys3_in : ∀ z ∈ keys3, z.size ≤ 1 := by decide
def keysZ : List ByteArray := [⟨#[97]⟩, ⟨#[122, 122]⟩, ⟨#[]⟩]
theorem keysZ_in : ∀ z ∈ keysZ, z.size ≤ 2 := by decide
theorem at_onS {W W' : World} {p g m : Nat} {zs : List ByteArray} (h : p ≠ g ∧ ∀ i, i < m → ∃ z ∈ zs, W.cell? ⟨g, i, none⟩ = some (.string z)) (hb : On p W W') : p ≠ g ∧ ∀ i, i < m → ∃ z ∈ zs, W'.cell? ⟨g, i, none⟩ = some (.string z) :=
  ⟨h.1, fun i hi => by obtain ⟨z, hz, hc⟩ := h.2 i hi; exact ⟨z, hz, hb.cell hc (by have := h.1; simpa using Ne.symm this)⟩⟩
/-- how long the list in a cell is -/
def lenC (b o : Nat) (W : World) : Nat := match W.cell? ⟨b, o, none⟩ with
  | some (.slice _ n _) => n
  | _ => 0
theorem lenC_eq {b o n c : Nat} {a : Option Addr} {W : World} (h : W.cell? ⟨b, o, none⟩ = some (.slice a n c)) : lenC b o W = n := by unfold lenC; rw [h]
theorem dec_small (n : Nat) (h : n ≤ 1000) : (⟨(Lib.itoa (100 + (n : Int))).toArray⟩ : ByteArray).size ≤ 20 := by
  have e : Lib.itoa (100 + (n : Int)) = Lib.decDigits (100 + n) := by
    unfold Lib.itoa
    rw [if_neg (by omega)]
    congr 1
  rw [e]
  have h1 := dt.digits_le 18 (100 + n) (by have : (10 : Nat) ^ (18 + 1) = 10000000000000000000 := by decide
                                           omega)
  show (Lib.decDigits (100 + n)).toArray.size ≤ 20
  rw [List.size_toArray]
  omega
set_option maxRecDepth 100000 in
set_option maxHeartbeats 1000000 in
theorem draw_short (p : Nat) (a : Option Addr) (len cap : Nat) (w : World) (hc : Cur w p a len cap) :
    Calls Tryz.prog 22 #[.pointer (some ⟨p, 0, none⟩)] w fun e w' => (∃ s : ByteArray, s.size ≤ 31 ∧ e = .returned (.string s)) ∧ Cur w' p a len cap ∧ On p w w' := by
  have h1 := draw_once p a len cap 16 w (by omega) hc
  clear hc
  go_enter Tryz.func22, Tryz.ntmps22
  go_wp2_with (go_at_call 23; fail)
  refine h1.mono ?_
  rintro e w1 ⟨⟨b, rfl⟩, hc1, hb1⟩
  have HC1 : Hid (Cur w1 p a len cap) := hc1
  have HB1 : Hid (On p w w1) := hb1
  have hp := hc1.lt
  clear h1 hc1 hb1
  cases b with
  | true =>
    have h2 := dnm.draw_name p a len cap w1 HC1.out
    go_wp2_with (go_at_call 57; fail)
    refine h2.mono ?_
    rintro e w2 ⟨⟨s, hs, rfl⟩, hc2, hb2⟩
    have HB2 : Hid (Cur w2 p a len cap ∧ On p w w2) := ⟨hc2, HB1.out.trans hb2⟩
    clear h2 hc2 hb2
    go_wp2
    go_ret
    exact ⟨⟨s, hs, rfl⟩, HB2.out⟩
  | false =>
    have h2 := draw_pick p a len cap w1.heap.size 3 keysX _ (by omega) (by omega) (at_texts w1 keysX 9) (HC1.out.alloc _)
    have HB3 : Hid (On p w (w1.alloc (.cells (keysX.map Value.string).toArray 9))) := HB1.out.alloc _
    go_wp2_with (go_at_call 36; fail)
    refine h2.mono ?_
    rintro e w2 ⟨⟨s, hs, rfl⟩, hc2, hb2⟩
    have hs2 := keysX_in s hs
    have HB2 : Hid (Cur w2 p a len cap ∧ On p w w2) := ⟨hc2, HB3.out.trans hb2⟩
    clear h2 hc2 hb2 hs
    go_wp2
    go_ret
    exact ⟨⟨s, by omega, rfl⟩, HB2.out⟩
set_option maxRecDepth 100000 in
set_option maxHeartbeats 4000000 in
theorem draw_routes (p : Nat) (a : Option Addr) (len cap : Nat) (w : World) (hc : Cur w p a len cap) :
    Calls Tryz.prog 21 #[.pointer (some ⟨p, 0, none⟩)] w fun e w' => (∃ (es : List Ex) (bs : List Bi) (ea : Option Addr) (ec : Nat) (ba : Option Addr) (bc : Nat), e = .returned (.agg #[.slice ea es.length ec, .slice ba bs.length bc]) ∧ Sm 200 es bs ∧ Tr w.heap.size w' es bs ea ec ba bc) ∧ Cur w' p a len cap ∧ On p w w' := by
  have hs0 := st_0 hc
  have h1 := draw_below p a len cap 12 _ (by omega) hs0.cur
  have HS0 : Hid (St p a len cap w [] [] none 0 none 0 ((w.alloc (.cells #[.slice none 0 0, .slice none 0 0] 27)).alloc (.cells #[.slice none 0 0, .slice none 0 0] 27))) := hs0
  have hp := hc.lt
  clear hc hs0
  go_enter Tryz.func21, Tryz.ntmps21
  go_wp2_with (go_at_call 45; fail)
  refine h1.mono ?_
  rintro e w1 ⟨⟨n, hn, rfl⟩, hc1, hb1⟩
  have HS1 : Hid (St p a len cap w [] [] none 0 none 0 w1) := HS0.out.draw hc1 hb1
  clear h1 hc1 hb1 HS0
  go_wp2
  go_loopw [5] (fun x wr => ∃ (j : Nat) (es : List Ex) (bs : List Bi) (ea : Option Addr) (ec : Nat) (ba : Option Addr) (bc : Nat), j ≤ n ∧ x = .int .i64 j ∧ Hid (Sm j es bs) ∧ Hid (St p a len cap w es bs ea ec ba bc wr)) (fun x _ => n - (intOf x).toNat)
  case atStart => exact ⟨0, [], [], none, 0, none, 0, Nat.zero_le _, rfl, sm_nil, HS1⟩
  case round =>
    obtain ⟨j, es, bs, ea, ec, ba, bc, hj, rfl, HSM, hst⟩ := hrel
    clear HS1
    by_cases hjn : j < n
    · have i2 : (j : Int) < (n : Int) := by omega
      have c0 : wr.cell? ⟨w.heap.size + 1, 0, none⟩ = some (.slice ea es.length ec) := bcell hst.out.sb rfl
      have c1 : wr.cell? ⟨w.heap.size + 1, 1, none⟩ = some (.slice ba bs.length bc) := bcell hst.out.sb rfl
      have hsb := hst.out.size
      have HN0 : Hid ((wr.alloc (.cells #[.slice ea es.length ec, .slice ba bs.length bc] 27)).heap[wr.heap.size]? = some (.cells #[.slice ea es.length ec, .slice ba bs.length bc] 27 (0, 0))) := bnew _ _ _
      have HT0 : Hid (St p a len cap w es bs ea ec ba bc (wr.alloc (.cells #[.slice ea es.length ec, .slice ba bs.length bc] 27))) := hst.out.alloc _
      have g1 := draw_once p a len cap 3 _ (by omega) HT0.out.cur
      go_wp2_with (go_at_call 23; fail)
      clear c0 c1 hst
      refine g1.mono ?_
      rintro e x1 ⟨⟨ob, rfl⟩, hd1, hf1⟩
      have HT1 : Hid (St p a len cap w es bs ea ec ba bc x1) := HT0.out.draw hd1 hf1
      have HN1 : Hid (x1.heap[wr.heap.size]? = some (.cells #[.slice ea es.length ec, .slice ba bs.length bc] 27 (0, 0))) := st_block HN0.out hf1 (by omega)
      have hs1 := HT1.out.size
      clear g1 hd1 hf1 HN0 HT0
      rcases (show ob = true ∨ (ob = false ∧ j = 0) ∨ (ob = false ∧ 0 < j) by cases ob <;> simp <;> omega) with rfl | ⟨rfl, rfl⟩ | ⟨rfl, hj0⟩
      · go_wp2
        refine cht.region (σ := G) (ws := (fun s : G => [(23, .agg #[.slice ea es.length ec, .slice ba bs.length bc]), (24, .pointer (some ⟨p, 0, none⟩)), (25, .string s.t), (26, .pointer (some ⟨p, 0, none⟩)), (27, .int .i64 s.x), (28, .tuple #[s.v, .bool s.b]), (22, .tuple #[s.v, .bool s.b]), (29, s.v), (30, .bool s.b)])) (js := [2, 4, 5, 9]) (S := (fun g k W => Sx p a len cap w es bs ea ec ba bc wr.heap.size j 3 (fun g k W => g.t.size ≤ 31) g k W)) [23, 24, 25, 26, 27, 28, 22, 29, 30] ⟨0, 0, 0, ⟨#[]⟩, ⟨#[]⟩, ⟨#[]⟩, undef, false⟩ (by kernel_rfl) (by kernel_rfl) (fun _ => rfl) (by kernel_rfl) (by decide) ⟨HT1.out.step (Below.refl _ _).drew, (by decide), fun _ => bstay HN1.out (Below.refl _ _).drew (by have := (Array.getElem?_eq_some_iff.1 HN1.out).1; omega), fun e => (by omega), fun e => (by omega)⟩ ?each ?fin
        case each =>
          refine ⟨cht.quiet 4 rfl (by decide) (.inl rfl) (by simp) (fun s => .agg #[.slice ea es.length ec, .slice ba bs.length bc]) (by rintro s _ ⟨⟩; exact dk.sets_on _ (by simp) _ rfl) (fun s k' W hk' hS => by have c0 : W.cell? ⟨w.heap.size + 1, 0, none⟩ = some (.slice ea es.length ec) := bcell hS.st.sb rfl; have c1 : W.cell? ⟨w.heap.size + 1, 1, none⟩ = some (.slice ba bs.length bc) := bcell hS.st.sb rfl; simp [execOp, go_sem, Act.eval, dk.sets_get, List.lookup, c0, c1]), ?_⟩
          refine ⟨cht.quiet 4 rfl (by decide) (.inl rfl) (by simp) (fun s => .pointer (some ⟨p, 0, none⟩)) (by rintro s _ ⟨⟩; exact dk.sets_on _ (by simp) _ rfl) (fun s k' W hk' hS => by simp [execOp, go_sem, Act.eval, dk.sets_get, List.lookup]), ?_⟩
          refine ⟨chd.call 0 [2, 4, 5, 6, 7, 8, 9] [25] (by kernel_rfl) (by kernel_rfl) rfl (by decide) rfl (.inl rfl) (by simp) 22 (fun s => #[.pointer (some ⟨p, 0, none⟩)]) (fun s W hS => by exact ⟨by simp [go_sem, Act.eval, dk.sets_get, List.lookup], (draw_short p a len cap W hS.st.cur).mono fun e w9 hh => by obtain ⟨⟨z9, hz9, rfl⟩, k1, k2⟩ := hh; exact ⟨{ s with t := z9 }, _, rfl, (by simp [chd.But]), (by rintro _ ⟨⟩; exact dk.sets_on _ (by simp) _ rfl), hS.draw (by decide) (by omega) k1 k2 (hz9)⟩⟩), ?_⟩
          refine ⟨cht.quiet 4 rfl (by decide) (.inl rfl) (by simp) (fun s => .pointer (some ⟨p, 0, none⟩)) (by rintro s _ ⟨⟩; exact dk.sets_on _ (by simp) _ rfl) (fun s k' W hk' hS => by simp [execOp, go_sem, Act.eval, dk.sets_get, List.lookup]), ?_⟩
          refine ⟨chd.call 1 [4, 5, 6, 7, 8, 9] [27] (by kernel_rfl) (by kernel_rfl) rfl (by decide) rfl (.inr ⟨⟨2, .chain⟩, by simp, rfl, rfl⟩) (by simp) 45 (fun s => #[.pointer (some ⟨p, 0, none⟩), .int .i64 3]) (fun s W hS => by exact ⟨by simp [go_sem, Act.eval, dk.sets_get, List.lookup], (draw_below p a len cap 3 W (by omega) hS.st.cur).mono fun e w9 hh => by obtain ⟨⟨z9, hz9, rfl⟩, k1, k2⟩ := hh; exact ⟨{ s with x := z9 }, _, rfl, (by simp [chd.But]), (by rintro _ ⟨⟩; exact dk.sets_on _ (by simp) _ rfl), hS.draw (by decide) (by omega) k1 k2 (hS.pre)⟩⟩), ?_⟩
          refine ⟨chd.call 2 [5, 6, 7, 8, 9] [28, 22, 29, 30] (by kernel_rfl) (by kernel_rfl) rfl (by decide) rfl (.inr ⟨⟨4, .data⟩, by simp, rfl, rfl⟩) (by simp) 13 (fun s => #[.agg #[.slice ea es.length ec, .slice ba bs.length bc], .string s.t, .int .i64 s.x]) (fun s W hS => by exact ⟨by simp [go_sem, Act.eval, dk.sets_get, List.lookup], (hS.st.declQ HSM.out (by omega) s.t s.x (by have := hS.pre; omega)).mono fun e w9 hh => by obtain ⟨⟨v9, b9, rfl, hn9⟩, k1⟩ := hh; exact ⟨{ s with v := v9, b := b9 }, _, rfl, (by simp [chd.But]), (by rintro _ ⟨⟩; exact dk.sets_on _ (by simp) _ rfl), hS.last (by decide) k1 hn9 hS.pre⟩⟩), ?_⟩
          refine ⟨cht.quiet 4 rfl (by decide) (.inl rfl) (by simp) (fun s => .tuple #[s.v, .bool s.b]) (by rintro s _ ⟨⟩; exact dk.sets_on _ (by simp) _ rfl) (fun s k' W hk' hS => by simp [execOp, go_sem, Act.eval, dk.sets_get, List.lookup]), ?_⟩
          refine ⟨cht.quiet 4 rfl (by decide) (.inl rfl) (by simp) (fun s => s.v) (by rintro s _ ⟨⟩; exact dk.sets_on _ (by simp) _ rfl) (fun s k' W hk' hS => by simp [execOp, go_sem, Act.eval, dk.sets_get, List.lookup]), ?_⟩
          refine ⟨cht.quiet 4 rfl (by decide) (.inl rfl) (by simp) (fun s => .bool s.b) (by rintro s _ ⟨⟩; exact dk.sets_on _ (by simp) _ rfl) (fun s k' W hk' hS => by simp [execOp, go_sem, Act.eval, dk.sets_get, List.lookup]), ?_⟩
          exact ⟨cht.sto 3 rfl (by decide) rfl (.inr ⟨⟨5, .chain⟩, by simp, rfl, rfl⟩) (by simp) rfl (fun s W hS => by obtain ⟨es', bs', ea', ec', ba', bc', hv, ⟨c0, c1⟩, hf, hS'⟩ := hS.sto (by omega) (fun _ => hS.pre); have f0 := hf 0; have f1 := hf 1; exact ⟨res2 W wr.heap.size (.slice ea' es'.length ec') (.slice ba' bs'.length bc'), by simp [execOp, go_sem, Act.eval, dk.sets_get, List.lookup, hv, c0, c1, f0, f1, res2], hS'⟩), trivial⟩
        case fin =>
          intro s x5 hS
          have HT5 : Hid (St p a len cap w es bs ea ec ba bc x5) := hS.st
          obtain ⟨es', bs', ea', ec', ba', bc', hb5, hsm5, hd5⟩ := hS.fin rfl
          have HSM5 : Hid (Sm (j + 1) es' bs') := hsm5
          have HD5 : Hid (Tr (w.heap.size + 2) x5 es' bs' ea' ec' ba' bc') := hd5
          have b0 : x5.cell? ⟨wr.heap.size, 0, none⟩ = some (.slice ea' es'.length ec') := bcell hb5 rfl
          have b1 : x5.cell? ⟨wr.heap.size, 1, none⟩ = some (.slice ba' bs'.length bc') := bcell hb5 rfl
          have c0 : x5.cell? ⟨w.heap.size + 1, 0, none⟩ = some (.slice ea es.length ec) := bcell HT5.out.sb rfl
          have c1 : x5.cell? ⟨w.heap.size + 1, 1, none⟩ = some (.slice ba bs.length bc) := bcell HT5.out.sb rfl
          have e0 := bfree HT5.out.sb 0
          have e1 := bfree HT5.out.sb 1
          obtain ⟨sx, sy, sA, sT, sU, sC, sV, sB⟩ := s
          clear hS hb5 hsm5 hd5
          simp only [dk.sets, Act.put, List.setIfInBounds_toArray, List.set_cons_succ, List.set_cons_zero]
          go_wp2
          go_roundw
          case rel => exact ⟨j + 1, es', bs', ea', ec', ba', bc', by omega, by go_num, HSM5.out, St.put HT5.out HD5.out⟩
          case measure => simp [intOf]; omega
      · go_wp2
        refine cht.region (σ := G) (ws := (fun s : G => [(23, .agg #[.slice ea es.length ec, .slice ba bs.length bc]), (24, .pointer (some ⟨p, 0, none⟩)), (25, .string s.t), (26, .pointer (some ⟨p, 0, none⟩)), (27, .int .i64 s.x), (28, .tuple #[s.v, .bool s.b]), (22, .tuple #[s.v, .bool s.b]), (29, s.v), (30, .bool s.b)])) (js := [2, 4, 5, 9]) (S := (fun g k W => Sx p a len cap w es bs ea ec ba bc wr.heap.size 0 3 (fun g k W => g.t.size ≤ 31) g k W)) [23, 24, 25, 26, 27, 28, 22, 29, 30] ⟨0, 0, 0, ⟨#[]⟩, ⟨#[]⟩, ⟨#[]⟩, undef, false⟩ (by kernel_rfl) (by kernel_rfl) (fun _ => rfl) (by kernel_rfl) (by decide) ⟨HT1.out.step (Below.refl _ _).drew, (by decide), fun _ => bstay HN1.out (Below.refl _ _).drew (by have := (Array.getElem?_eq_some_iff.1 HN1.out).1; omega), fun e => (by omega), fun e => (by omega)⟩ ?each ?fin
        case each =>
          refine ⟨cht.quiet 4 rfl (by decide) (.inl rfl) (by simp) (fun s => .agg #[.slice ea es.length ec, .slice ba bs.length bc]) (by rintro s _ ⟨⟩; exact dk.sets_on _ (by simp) _ rfl) (fun s k' W hk' hS => by have c0 : W.cell? ⟨w.heap.size + 1, 0, none⟩ = some (.slice ea es.length ec) := bcell hS.st.sb rfl; have c1 : W.cell? ⟨w.heap.size + 1, 1, none⟩ = some (.slice ba bs.length bc) := bcell hS.st.sb rfl; simp [execOp, go_sem, Act.eval, dk.sets_get, List.lookup, c0, c1]), ?_⟩
          refine ⟨cht.quiet 4 rfl (by decide) (.inl rfl) (by simp) (fun s => .pointer (some ⟨p, 0, none⟩)) (by rintro s _ ⟨⟩; exact dk.sets_on _ (by simp) _ rfl) (fun s k' W hk' hS => by simp [execOp, go_sem, Act.eval, dk.sets_get, List.lookup]), ?_⟩
          refine ⟨chd.call 0 [2, 4, 5, 6, 7, 8, 9] [25] (by kernel_rfl) (by kernel_rfl) rfl (by decide) rfl (.inl rfl) (by simp) 22 (fun s => #[.pointer (some ⟨p, 0, none⟩)]) (fun s W hS => by exact ⟨by simp [go_sem, Act.eval, dk.sets_get, List.lookup], (draw_short p a len cap W hS.st.cur).mono fun e w9 hh => by obtain ⟨⟨z9, hz9, rfl⟩, k1, k2⟩ := hh; exact ⟨{ s with t := z9 }, _, rfl, (by simp [chd.But]), (by rintro _ ⟨⟩; exact dk.sets_on _ (by simp) _ rfl), hS.draw (by decide) (by omega) k1 k2 (hz9)⟩⟩), ?_⟩
          refine ⟨cht.quiet 4 rfl (by decide) (.inl rfl) (by simp) (fun s => .pointer (some ⟨p, 0, none⟩)) (by rintro s _ ⟨⟩; exact dk.sets_on _ (by simp) _ rfl) (fun s k' W hk' hS => by simp [execOp, go_sem, Act.eval, dk.sets_get, List.lookup]), ?_⟩
          refine ⟨chd.call 1 [4, 5, 6, 7, 8, 9] [27] (by kernel_rfl) (by kernel_rfl) rfl (by decide) rfl (.inr ⟨⟨2, .chain⟩, by simp, rfl, rfl⟩) (by simp) 45 (fun s => #[.pointer (some ⟨p, 0, none⟩), .int .i64 3]) (fun s W hS => by exact ⟨by simp [go_sem, Act.eval, dk.sets_get, List.lookup], (draw_below p a len cap 3 W (by omega) hS.st.cur).mono fun e w9 hh => by obtain ⟨⟨z9, hz9, rfl⟩, k1, k2⟩ := hh; exact ⟨{ s with x := z9 }, _, rfl, (by simp [chd.But]), (by rintro _ ⟨⟩; exact dk.sets_on _ (by simp) _ rfl), hS.draw (by decide) (by omega) k1 k2 (hS.pre)⟩⟩), ?_⟩
          refine ⟨chd.call 2 [5, 6, 7, 8, 9] [28, 22, 29, 30] (by kernel_rfl) (by kernel_rfl) rfl (by decide) rfl (.inr ⟨⟨4, .data⟩, by simp, rfl, rfl⟩) (by simp) 13 (fun s => #[.agg #[.slice ea es.length ec, .slice ba bs.length bc], .string s.t, .int .i64 s.x]) (fun s W hS => by exact ⟨by simp [go_sem, Act.eval, dk.sets_get, List.lookup], (hS.st.declQ HSM.out (by omega) s.t s.x (by have := hS.pre; omega)).mono fun e w9 hh => by obtain ⟨⟨v9, b9, rfl, hn9⟩, k1⟩ := hh; exact ⟨{ s with v := v9, b := b9 }, _, rfl, (by simp [chd.But]), (by rintro _ ⟨⟩; exact dk.sets_on _ (by simp) _ rfl), hS.last (by decide) k1 hn9 hS.pre⟩⟩), ?_⟩
          refine ⟨cht.quiet 4 rfl (by decide) (.inl rfl) (by simp) (fun s => .tuple #[s.v, .bool s.b]) (by rintro s _ ⟨⟩; exact dk.sets_on _ (by simp) _ rfl) (fun s k' W hk' hS => by simp [execOp, go_sem, Act.eval, dk.sets_get, List.lookup]), ?_⟩
          refine ⟨cht.quiet 4 rfl (by decide) (.inl rfl) (by simp) (fun s => s.v) (by rintro s _ ⟨⟩; exact dk.sets_on _ (by simp) _ rfl) (fun s k' W hk' hS => by simp [execOp, go_sem, Act.eval, dk.sets_get, List.lookup]), ?_⟩
          refine ⟨cht.quiet 4 rfl (by decide) (.inl rfl) (by simp) (fun s => .bool s.b) (by rintro s _ ⟨⟩; exact dk.sets_on _ (by simp) _ rfl) (fun s k' W hk' hS => by simp [execOp, go_sem, Act.eval, dk.sets_get, List.lookup]), ?_⟩
          exact ⟨cht.sto 3 rfl (by decide) rfl (.inr ⟨⟨5, .chain⟩, by simp, rfl, rfl⟩) (by simp) rfl (fun s W hS => by obtain ⟨es', bs', ea', ec', ba', bc', hv, ⟨c0, c1⟩, hf, hS'⟩ := hS.sto (by omega) (fun _ => hS.pre); have f0 := hf 0; have f1 := hf 1; exact ⟨res2 W wr.heap.size (.slice ea' es'.length ec') (.slice ba' bs'.length bc'), by simp [execOp, go_sem, Act.eval, dk.sets_get, List.lookup, hv, c0, c1, f0, f1, res2], hS'⟩), trivial⟩
        case fin =>
          intro s x5 hS
          have HT5 : Hid (St p a len cap w es bs ea ec ba bc x5) := hS.st
          obtain ⟨es', bs', ea', ec', ba', bc', hb5, hsm5, hd5⟩ := hS.fin rfl
          have HSM5 : Hid (Sm (0 + 1) es' bs') := hsm5
          have HD5 : Hid (Tr (w.heap.size + 2) x5 es' bs' ea' ec' ba' bc') := hd5
          have b0 : x5.cell? ⟨wr.heap.size, 0, none⟩ = some (.slice ea' es'.length ec') := bcell hb5 rfl
          have b1 : x5.cell? ⟨wr.heap.size, 1, none⟩ = some (.slice ba' bs'.length bc') := bcell hb5 rfl
          have c0 : x5.cell? ⟨w.heap.size + 1, 0, none⟩ = some (.slice ea es.length ec) := bcell HT5.out.sb rfl
          have c1 : x5.cell? ⟨w.heap.size + 1, 1, none⟩ = some (.slice ba bs.length bc) := bcell HT5.out.sb rfl
          have e0 := bfree HT5.out.sb 0
          have e1 := bfree HT5.out.sb 1
          obtain ⟨sx, sy, sA, sT, sU, sC, sV, sB⟩ := s
          clear hS hb5 hsm5 hd5
          simp only [dk.sets, Act.put, List.setIfInBounds_toArray, List.set_cons_succ, List.set_cons_zero]
          go_wp2
          go_roundw
          case rel => exact ⟨0 + 1, es', bs', ea', ec', ba', bc', by omega, by go_num, HSM5.out, St.put HT5.out HD5.out⟩
          case measure => simp [intOf]; omega
      · have f0 : ((j : Int) == 0) = false := by simp; omega
        go_wp2
        refine chf.region (σ := G) (ws := (fun s : G => [(32, .agg #[.slice ea es.length ec, .slice ba bs.length bc]), (33, .pointer (some ⟨p, 0, none⟩)), (34, .string s.t), (35, .pointer (some ⟨p, 0, none⟩)), (36, .string s.u), (37, .pointer (some ⟨p, 0, none⟩)), (38, .slice (some ⟨s.a, 0, none⟩) 3 3), (39, .string s.c), (40, .tuple #[s.v, .bool s.b]), (31, .tuple #[s.v, .bool s.b]), (41, s.v), (42, .bool s.b)])) (js := [2, 4, 7, 8, 12]) (j0 := 6) (S := (fun g k b W => (Sx p a len cap w es bs ea ec ba bc wr.heap.size j 4 (fun g k W => g.t.size ≤ 31 ∧ g.u.size ≤ 100 ∧ g.c.size ≤ 1) g k W) ∧ (k ≤ 2 → b = true → p ≠ g.a ∧ ∀ i, i < 3 → ∃ z ∈ keys3, W.cell? ⟨g.a, i, none⟩ = some (.string z)))) [32, 33, 34, 35, 36, 37, 38, 39, 40, 31, 41, 42] ⟨0, 0, 0, ⟨#[]⟩, ⟨#[]⟩, ⟨#[]⟩, undef, false⟩ (by kernel_rfl) (by kernel_rfl) (fun _ => rfl) (by kernel_rfl) (by decide) (by decide) ⟨⟨HT1.out.step (Below.refl _ _).drew, ⟨by decide, by decide, by decide⟩, fun _ => bstay HN1.out (Below.refl _ _).drew (by have := (Array.getElem?_eq_some_iff.1 HN1.out).1; omega), fun e => (by omega), fun e => (by omega)⟩, fun _ h => (by cases h)⟩ ?each ?fin
        case each =>
          refine ⟨chf.quiet 5 rfl (by decide) (by decide) (.inl rfl) (by simp) (fun s => .agg #[.slice ea es.length ec, .slice ba bs.length bc]) (by rintro s _ ⟨⟩; exact dk.sets_on _ (by simp) _ rfl) (fun s k' b W hk' hS => by have c0 : W.cell? ⟨w.heap.size + 1, 0, none⟩ = some (.slice ea es.length ec) := bcell hS.1.st.sb rfl; have c1 : W.cell? ⟨w.heap.size + 1, 1, none⟩ = some (.slice ba bs.length bc) := bcell hS.1.st.sb rfl; simp [execOp, go_sem, Act.eval, dk.sets_get, List.lookup, c0, c1]), ?_⟩
          refine ⟨chf.quiet 5 rfl (by decide) (by decide) (.inl rfl) (by simp) (fun s => .pointer (some ⟨p, 0, none⟩)) (by rintro s _ ⟨⟩; exact dk.sets_on _ (by simp) _ rfl) (fun s k' b W hk' hS => by simp [execOp, go_sem, Act.eval, dk.sets_get, List.lookup]), ?_⟩
          refine ⟨chf.call 0 [2, 4, 7, 8, 9, 10, 11, 12] [34] (by kernel_rfl) (by kernel_rfl) rfl (by decide) (by decide) rfl (.inl rfl) (by simp) 22 (fun s => #[.pointer (some ⟨p, 0, none⟩)]) (fun s b W hb hS => by exact ⟨by simp [go_sem, Act.eval, dk.sets_get, List.lookup], (draw_short p a len cap W hS.1.st.cur).mono fun e w9 hh => by obtain ⟨⟨z9, hz9, rfl⟩, k1, k2⟩ := hh; exact ⟨{ s with t := z9 }, _, rfl, (by simp [chd.But]), (by rintro _ ⟨⟩; exact dk.sets_on _ (by simp) _ rfl), hS.1.draw (by decide) (by omega) k1 k2 (⟨hz9, hS.1.pre.2⟩), fun h hb9 => at_onS (hS.2 (by omega) hb9) k2⟩⟩), ?_⟩
          refine ⟨chf.quiet 5 rfl (by decide) (by decide) (.inl rfl) (by simp) (fun s => .pointer (some ⟨p, 0, none⟩)) (by rintro s _ ⟨⟩; exact dk.sets_on _ (by simp) _ rfl) (fun s k' b W hk' hS => by simp [execOp, go_sem, Act.eval, dk.sets_get, List.lookup]), ?_⟩
          refine ⟨chf.call 1 [4, 7, 8, 9, 10, 11, 12] [36] (by kernel_rfl) (by kernel_rfl) rfl (by decide) (by decide) rfl (.inr ⟨⟨2, .chain⟩, by simp, rfl, rfl⟩) (by simp) 24 (fun s => #[.pointer (some ⟨p, 0, none⟩)]) (fun s b W hb hS => by exact ⟨by simp [go_sem, Act.eval, dk.sets_get, List.lookup], (dp.draw_key p a len cap W hS.1.st.cur).mono fun e w9 hh => by obtain ⟨⟨z9, hz9, rfl⟩, k1, k2⟩ := hh; exact ⟨{ s with u := z9 }, _, rfl, (by simp [chd.But]), (by rintro _ ⟨⟩; exact dk.sets_on _ (by simp) _ rfl), hS.1.draw (by decide) (by omega) k1 k2 (⟨hS.1.pre.1, hz9, hS.1.pre.2.2⟩), fun h hb9 => at_onS (hS.2 (by omega) hb9) k2⟩⟩), ?_⟩
          refine ⟨chf.quiet 5 rfl (by decide) (by decide) (.inl rfl) (by simp) (fun s => .pointer (some ⟨p, 0, none⟩)) (by rintro s _ ⟨⟩; exact dk.sets_on _ (by simp) _ rfl) (fun s k' b W hk' hS => by simp [execOp, go_sem, Act.eval, dk.sets_get, List.lookup]), ?_⟩
          refine ⟨chf.free 2 rfl (by decide) rfl (.inr ⟨7, _, rfl, rfl, ⟨6, .data⟩, by simp, rfl, rfl⟩) [6, 7, 8, 9, 10, 11, 12] [38] (by kernel_rfl) (by kernel_rfl) (by simp) (fun s k' W hk' hS => by exact ⟨{ s with a := W.heap.size }, .slice (some ⟨W.heap.size, 0, none⟩) 3 3, W.alloc (.cells (keys3.map Value.string).toArray 9), (by simp [chd.But]), (by rintro _ ⟨⟩; exact dk.sets_on _ (by simp) _ rfl), (by simp [execOp, go_sem, Act.eval, dk.sets_get, List.lookup, keys3]), hS.1.same (by omega) ((Below.refl _ _).alloc (Nat.le_refl _) _) hS.1.pre, fun _ _ => ⟨(by have h1 := hS.1.st.size; have h2 := hS.1.st.hp; show p ≠ W.heap.size; omega), at_texts W keys3 _⟩⟩), ?_⟩
          refine ⟨chf.call 2 [7, 8, 9, 10, 11, 12] [39] (by kernel_rfl) (by kernel_rfl) rfl (by decide) (by decide) rfl (.inr ⟨⟨4, .chain⟩, by simp, rfl, rfl⟩) (by simp) 36 (fun s => #[.pointer (some ⟨p, 0, none⟩), .slice (some ⟨s.a, 0, none⟩) 3 3]) (fun s b W hb hS => by have hb' : b = true := hb ⟨⟨6, .data⟩, by simp, rfl, rfl⟩; exact ⟨by simp [go_sem, Act.eval, dk.sets_get, List.lookup], (draw_pick p a len cap s.a 3 keys3 W (by omega) (Ne.symm (hS.2 (by omega) hb').1) (hS.2 (by omega) hb').2 hS.1.st.cur).mono fun e w9 hh => by obtain ⟨⟨z9, hz9, rfl⟩, k1, k2⟩ := hh; exact ⟨{ s with c := z9 }, _, rfl, (by simp [chd.But]), (by rintro _ ⟨⟩; exact dk.sets_on _ (by simp) _ rfl), hS.1.draw (by decide) (by omega) k1 k2 (⟨hS.1.pre.1, hS.1.pre.2.1, keys3_in z9 hz9⟩), fun h => (by omega)⟩⟩), ?_⟩
          refine ⟨chf.call 3 [8, 9, 10, 11, 12] [40, 31, 41, 42] (by kernel_rfl) (by kernel_rfl) rfl (by decide) (by decide) rfl (.inr ⟨⟨7, .data⟩, by simp, rfl, rfl⟩) (by simp) 10 (fun s => #[.agg #[.slice ea es.length ec, .slice ba bs.length bc], .string s.t, .string s.u, .string s.c]) (fun s b W hb hS => by exact ⟨by simp [go_sem, Act.eval, dk.sets_get, List.lookup], (hS.1.st.bindQ HSM.out (by omega) s.t s.u s.c (by have h1 := hS.1.pre; omega)).mono fun e w9 hh => by obtain ⟨⟨v9, b9, rfl, hn9⟩, k1⟩ := hh; exact ⟨{ s with v := v9, b := b9 }, _, rfl, (by simp [chd.But]), (by rintro _ ⟨⟩; exact dk.sets_on _ (by simp) _ rfl), hS.1.last (by decide) k1 hn9 hS.1.pre, fun h => (by omega)⟩⟩), ?_⟩
          refine ⟨chf.quiet 5 rfl (by decide) (by decide) (.inl rfl) (by simp) (fun s => .tuple #[s.v, .bool s.b]) (by rintro s _ ⟨⟩; exact dk.sets_on _ (by simp) _ rfl) (fun s k' b W hk' hS => by simp [execOp, go_sem, Act.eval, dk.sets_get, List.lookup]), ?_⟩
          refine ⟨chf.quiet 5 rfl (by decide) (by decide) (.inl rfl) (by simp) (fun s => s.v) (by rintro s _ ⟨⟩; exact dk.sets_on _ (by simp) _ rfl) (fun s k' b W hk' hS => by simp [execOp, go_sem, Act.eval, dk.sets_get, List.lookup]), ?_⟩
          refine ⟨chf.quiet 5 rfl (by decide) (by decide) (.inl rfl) (by simp) (fun s => .bool s.b) (by rintro s _ ⟨⟩; exact dk.sets_on _ (by simp) _ rfl) (fun s k' b W hk' hS => by simp [execOp, go_sem, Act.eval, dk.sets_get, List.lookup]), ?_⟩
          exact ⟨chf.sto 4 rfl (by decide) (by decide) rfl (.inr ⟨⟨8, .chain⟩, by simp, rfl, rfl⟩) (by simp) rfl (fun s b W hS => by obtain ⟨es', bs', ea', ec', ba', bc', hv, ⟨c0, c1⟩, hf, hS'⟩ := hS.1.sto (by omega) (fun _ => hS.1.pre); have f0 := hf 0; have f1 := hf 1; exact ⟨res2 W wr.heap.size (.slice ea' es'.length ec') (.slice ba' bs'.length bc'), by simp [execOp, go_sem, Act.eval, dk.sets_get, List.lookup, hv, c0, c1, f0, f1, res2], hS', fun h => (by omega)⟩), trivial⟩
        case fin =>
          intro s x5 hS
          have HT5 : Hid (St p a len cap w es bs ea ec ba bc x5) := hS.1.st
          obtain ⟨es', bs', ea', ec', ba', bc', hb5, hsm5, hd5⟩ := hS.1.fin rfl
          have HSM5 : Hid (Sm (j + 1) es' bs') := hsm5
          have HD5 : Hid (Tr (w.heap.size + 2) x5 es' bs' ea' ec' ba' bc') := hd5
          have b0 : x5.cell? ⟨wr.heap.size, 0, none⟩ = some (.slice ea' es'.length ec') := bcell hb5 rfl
          have b1 : x5.cell? ⟨wr.heap.size, 1, none⟩ = some (.slice ba' bs'.length bc') := bcell hb5 rfl
          have c0 : x5.cell? ⟨w.heap.size + 1, 0, none⟩ = some (.slice ea es.length ec) := bcell HT5.out.sb rfl
          have c1 : x5.cell? ⟨w.heap.size + 1, 1, none⟩ = some (.slice ba bs.length bc) := bcell HT5.out.sb rfl
          have e0 := bfree HT5.out.sb 0
          have e1 := bfree HT5.out.sb 1
          obtain ⟨sx, sy, sA, sT, sU, sC, sV, sB⟩ := s
          clear hS hb5 hsm5 hd5
          simp only [dk.sets, Act.put, List.setIfInBounds_toArray, List.set_cons_succ, List.set_cons_zero]
          go_wp2
          go_roundw
          case rel => exact ⟨j + 1, es', bs', ea', ec', ba', bc', by omega, by go_num, HSM5.out, St.put HT5.out HD5.out⟩
          case measure => simp [intOf]; omega
    · obtain rfl : j = n := by omega
      have hsb := hst.out.size
      have g1 := draw_below p a len cap 20 wr (by omega) hst.out.cur
      go_wp2_with (go_at_call 45; fail)
      refine g1.mono ?_
      rintro e x1 ⟨⟨z, hz, rfl⟩, hd1, hf1⟩
      have HT1 : Hid (St p a len cap w es bs ea ec ba bc x1) := hst.out.draw hd1 hf1
      have hs1 := HT1.out.size
      have hyt := HSM.out.tt
      have hes12 : es.length ≤ 12 := by omega
      have hbs12 : bs.length ≤ 12 := by omega
      clear g1 hd1 hf1 hst
      by_cases z0 : z = 0
      · subst z0
        go_wp2
        refine cht.region (σ := G) (ws := (fun s : G => [(48, .pointer (some ⟨w.heap.size + 1, 0, none⟩)), (49, .slice ea es.length ec), (50, .pointer (some ⟨p, 0, none⟩)), (51, .slice (some ⟨s.a, 0, none⟩) 3 3), (52, .string s.t), (53, .pointer (some ⟨p, 0, none⟩)), (54, .int .i64 s.x), (55, .agg #[.string s.t, .int .i64 s.x]), (56, .slice (some ⟨s.y, 0, none⟩) 1 1), (57, s.v), (58, .pointer (some ⟨w.heap.size + 1, 0, none⟩))])) (js := [3, 4, 6, 7, 8, 9, 11]) (S := (fun g k W => (k ≤ 5 → St p a len cap w es bs ea ec ba bc W) ∧ (k = 1 → p < g.a ∧ ∀ i, i < 3 → ∃ z ∈ keysZ, W.cell? ⟨g.a, i, none⟩ = some (.string z)) ∧ (2 ≤ k → g.t.size ≤ 2) ∧ (k = 5 → W.heap[g.y]? = some (.cells #[.string g.t, .int .i64 g.x] 75 (0, 0))) ∧ (k = 7 → ∃ ea' ec', St p a len cap w (es ++ [(⟨g.t, g.x⟩ : Ex)]) bs ea' ec' ba bc W) ∧ (k = 6 → ∃ ea' ec', g.v = .slice ea' (es.length + 1) ec' ∧ W.cell? ⟨w.heap.size + 1, 0, none⟩ = some (.slice ea es.length ec) ∧ W.frozen? ⟨w.heap.size + 1, 0, none⟩ = false ∧ St p a len cap w (es ++ [(⟨g.t, g.x⟩ : Ex)]) bs ea' ec' ba bc (W.setCell ⟨w.heap.size + 1, 0, none⟩ (.slice ea' (es.length + 1) ec'))))) [48, 49, 50, 51, 52, 53, 54, 55, 56, 57, 58] ⟨0, 0, 0, ⟨#[]⟩, ⟨#[]⟩, ⟨#[]⟩, undef, false⟩ (by kernel_rfl) (by kernel_rfl) (fun _ => rfl) (by kernel_rfl) (by decide) ⟨fun _ => HT1.out.step (Below.refl _ _).drew, fun h => (by omega), fun h => (by omega), fun h => (by omega), fun h => (by omega), fun h => (by omega)⟩ ?each ?fin
        case each =>
          refine ⟨cht.quiet 7 rfl (by decide) (.inl rfl) (by simp) (fun s => .pointer (some ⟨w.heap.size + 1, 0, none⟩)) (by rintro s _ ⟨⟩; exact dk.sets_on _ (by simp) _ rfl) (fun s k' W hk' hS => by simp [execOp, go_sem, Act.eval, dk.sets_get, List.lookup]), ?_⟩
          refine ⟨cht.quiet 5 rfl (by decide) (.inr ⟨9, _, rfl, rfl, ⟨1, .data⟩, by simp, rfl, rfl⟩) (by simp) (fun s => .slice ea es.length ec) (by rintro s _ ⟨⟩; exact dk.sets_on _ (by simp) _ rfl) (fun s k' W hk' hS => by have hst := hS.1 hk'; have c0 : W.cell? ⟨w.heap.size + 1, 0, none⟩ = some (.slice ea es.length ec) := bcell hst.sb rfl; simp [execOp, go_sem, Act.eval, dk.sets_get, List.lookup, c0]), ?_⟩
          refine ⟨cht.quiet 7 rfl (by decide) (.inl rfl) (by simp) (fun s => .pointer (some ⟨p, 0, none⟩)) (by rintro s _ ⟨⟩; exact dk.sets_on _ (by simp) _ rfl) (fun s k' W hk' hS => by simp [execOp, go_sem, Act.eval, dk.sets_get, List.lookup]), ?_⟩
          refine ⟨chd.eff 0 [3, 4, 6, 7, 8, 9, 10, 11] [51] (by kernel_rfl) (by kernel_rfl) rfl (by decide) rfl (.inl rfl) (by simp) (fun s W hS => by exact ⟨{ s with a := W.heap.size }, .slice (some ⟨W.heap.size, 0, none⟩) 3 3, W.alloc (.cells (keysZ.map Value.string).toArray 9), (by simp [chd.But]), (by rintro _ ⟨⟩; exact dk.sets_on _ (by simp) _ rfl), (by simp [execOp, go_sem, Act.eval, dk.sets_get, List.lookup, keysZ]), fun _ => (hS.1 (by omega)).alloc _, fun _ => ⟨(by have h1 := (hS.1 (by omega)).size; have h2 := (hS.1 (by omega)).hp; show p < W.heap.size; omega), at_texts W keysZ _⟩, fun h => (by omega), fun h => (by omega), fun h => (by omega), fun h => (by omega)⟩), ?_⟩
          refine ⟨chd.call 1 [4, 6, 7, 8, 9, 10, 11] [52, 55] (by kernel_rfl) (by kernel_rfl) rfl (by decide) rfl (.inr ⟨⟨3, .data⟩, by simp, rfl, rfl⟩) (by simp) 36 (fun s => #[.pointer (some ⟨p, 0, none⟩), .slice (some ⟨s.a, 0, none⟩) 3 3]) (fun s W hS => by exact ⟨by simp [go_sem, Act.eval, dk.sets_get, List.lookup], (draw_pick p a len cap s.a 3 keysZ W (by omega) (by have := (hS.2.1 rfl).1; omega) (hS.2.1 rfl).2 (hS.1 (by omega)).cur).mono fun e w9 hh => by obtain ⟨⟨z9, hz9, rfl⟩, k1, k2⟩ := hh; exact ⟨{ s with t := z9 }, _, rfl, (by simp [chd.But]), (by rintro _ ⟨⟩; exact dk.sets_on _ (by simp) _ rfl), fun _ => (hS.1 (by omega)).draw k1 k2, fun h => (by omega), fun _ => keysZ_in z9 hz9, fun h => (by omega), fun h => (by omega), fun h => (by omega)⟩⟩), ?_⟩
          refine ⟨cht.quiet 7 rfl (by decide) (.inl rfl) (by simp) (fun s => .pointer (some ⟨p, 0, none⟩)) (by rintro s _ ⟨⟩; exact dk.sets_on _ (by simp) _ rfl) (fun s k' W hk' hS => by simp [execOp, go_sem, Act.eval, dk.sets_get, List.lookup]), ?_⟩
          refine ⟨chd.call 2 [6, 7, 8, 9, 10, 11] [54, 55] (by kernel_rfl) (by kernel_rfl) rfl (by decide) rfl (.inr ⟨⟨4, .chain⟩, by simp, rfl, rfl⟩) (by simp) 45 (fun s => #[.pointer (some ⟨p, 0, none⟩), .int .i64 4]) (fun s W hS => by exact ⟨by simp [go_sem, Act.eval, dk.sets_get, List.lookup], (draw_below p a len cap 4 W (by omega) (hS.1 (by omega)).cur).mono fun e w9 hh => by obtain ⟨⟨z9, hz9, rfl⟩, k1, k2⟩ := hh; exact ⟨{ s with x := z9 }, _, rfl, (by simp [chd.But]), (by rintro _ ⟨⟩; exact dk.sets_on _ (by simp) _ rfl), fun _ => (hS.1 (by omega)).draw k1 k2, fun h => (by omega), fun _ => hS.2.2.1 (by omega), fun h => (by omega), fun h => (by omega), fun h => (by omega)⟩⟩), ?_⟩
          refine ⟨chd.eff 3 [7, 8, 9, 10, 11] [55] (by kernel_rfl) (by kernel_rfl) rfl (by decide) rfl (.inr ⟨⟨6, .data⟩, by simp, rfl, rfl⟩) (by simp) (fun s W hS => by exact ⟨s, .agg #[.string s.t, .int .i64 s.x], W, (by simp [chd.But]), (by rintro _ ⟨⟩; exact dk.sets_on _ (by simp) _ rfl), (by simp [execOp, go_sem, Act.eval, dk.sets_get, List.lookup]), fun _ => hS.1 (by omega), fun h => (by omega), fun _ => hS.2.2.1 (by omega), fun h => (by omega), fun h => (by omega), fun h => (by omega)⟩), ?_⟩
          refine ⟨chd.eff 4 [8, 9, 10, 11] [56] (by kernel_rfl) (by kernel_rfl) rfl (by decide) rfl (.inr ⟨⟨7, .data⟩, by simp, rfl, rfl⟩) (by simp) (fun s W hS => by exact ⟨{ s with y := W.heap.size }, .slice (some ⟨W.heap.size, 0, none⟩) 1 1, W.alloc (.cells #[.string s.t, .int .i64 s.x] 75), (by simp [chd.But]), (by rintro _ ⟨⟩; exact dk.sets_on _ (by simp) _ rfl), (by simp [execOp, go_sem, Act.eval, dk.sets_get, List.lookup]), fun _ => (hS.1 (by omega)).alloc _, fun h => (by omega), fun _ => hS.2.2.1 (by omega), fun _ => bnew W _ _, fun h => (by omega), fun h => (by omega)⟩), ?_⟩
          refine ⟨chd.eff 5 [9, 10, 11] [57] (by kernel_rfl) (by kernel_rfl) rfl (by decide) rfl (.inr ⟨⟨8, .data⟩, by simp, rfl, rfl⟩) (by simp) (fun s W hS => by obtain ⟨ea', ec', Y, hr, ⟨n1, n2⟩, hst⟩ := (hS.1 (by omega)).appE ⟨s.t, s.x⟩ (hS.2.2.2.1 rfl) (by omega) 24; exact ⟨{ s with v := .slice ea' (es.length + 1) ec' }, .slice ea' (es.length + 1) ec', Y, (by simp [chd.But]), (by rintro _ ⟨⟩; exact dk.sets_on _ (by simp) _ rfl), chd.app_run rfl (by simp [Act.eval, dk.sets_get, List.lookup]) (by simp [Act.eval, dk.sets_get, List.lookup]) hr, fun h => (by omega), fun h => (by omega), fun _ => hS.2.2.1 (by omega), fun h => (by omega), fun h => (by omega), fun _ => ⟨ea', ec', rfl, n1, n2, hst⟩⟩), ?_⟩
          refine ⟨cht.quiet 7 rfl (by decide) (.inl rfl) (by simp) (fun s => .pointer (some ⟨w.heap.size + 1, 0, none⟩)) (by rintro s _ ⟨⟩; exact dk.sets_on _ (by simp) _ rfl) (fun s k' W hk' hS => by simp [execOp, go_sem, Act.eval, dk.sets_get, List.lookup]), ?_⟩
          exact ⟨cht.sto 6 rfl (by decide) rfl (.inr ⟨⟨9, .data⟩, by simp, rfl, rfl⟩) (by simp) rfl (fun s W hS => by obtain ⟨ea', ec', hv, n1, n2, hst⟩ := hS.2.2.2.2.2 rfl; exact ⟨W.setCell ⟨w.heap.size + 1, 0, none⟩ (.slice ea' (es.length + 1) ec'), by simp [execOp, go_sem, Act.eval, dk.sets_get, List.lookup, hv, n1, n2], fun h => (by omega), fun h => (by omega), fun _ => hS.2.2.1 (by omega), fun h => (by omega), fun _ => ⟨ea', ec', hst⟩, fun h => (by omega)⟩), trivial⟩
        case fin =>
          intro s x3 hS
          obtain ⟨ea', ec', hst3⟩ := hS.2.2.2.2.1 rfl
          have hst2 := hS.2.2.1 (by decide)
          have HTT : Hid (St p a len cap w (es ++ [(⟨s.t, s.x⟩ : Ex)]) bs ea' ec' ba bc x3) := hst3
          have HSM2 : Hid (Sm 200 (es ++ [(⟨s.t, s.x⟩ : Ex)]) bs) := ⟨by rw [List.length_append, List.length_singleton]; omega, fun e he => by
            rcases List.mem_append.1 he with he | he
            · exact HSM.out.eo e he
            · rw [List.mem_singleton.1 he]; show s.t.size ≤ 40; omega, HSM.out.bo⟩
          simp only [dk.sets]
          clear hS hst3 hst2 HT1
          have c0 : x3.cell? ⟨w.heap.size + 1, 0, none⟩ = some (.slice ea' ((es ++ [(⟨s.t, s.x⟩ : Ex)]) : List Ex).length ec') := bcell HTT.out.sb rfl
          have c1 : x3.cell? ⟨w.heap.size + 1, 1, none⟩ = some (.slice ba bs.length bc) := bcell HTT.out.sb rfl
          have q0 : x3.cell? ⟨w.heap.size, 0, none⟩ = some (.slice none 0 0) := bcell HTT.out.rb rfl
          have q1 : x3.cell? ⟨w.heap.size, 1, none⟩ = some (.slice none 0 0) := bcell HTT.out.rb rfl
          have r0 := bfree HTT.out.rb 0
          have r1 := bfree HTT.out.rb 1
          have HDN : Hid (∀ y0 y1, Tr w.heap.size (res2 x3 w.heap.size y0 y1) (es ++ [(⟨s.t, s.x⟩ : Ex)]) bs ea' ec' ba bc ∧ Cur (res2 x3 w.heap.size y0 y1) p a len cap ∧ On p w (res2 x3 w.heap.size y0 y1)) := fun y0 y1 => HTT.out.done y0 y1
          obtain ⟨eL, heL⟩ : ∃ x, (es ++ [(⟨s.t, s.x⟩ : Ex)]) = x := ⟨_, rfl⟩
          obtain ⟨bL, hbL⟩ : ∃ x, bs = x := ⟨_, rfl⟩
          rw [heL] at HDN c0 HSM2
          rw [hbL] at HDN c1 HSM2
          clear heL hbL
          clear HTT
          go_wp2
          exact bodyPost_ret (v := .agg #[.slice ea' eL.length ec', .slice ba bL.length bc]) (by simp [results, Tryz.results21, go_sem, q0, q1]) rfl ⟨⟨eL, bL, ea', ec', ba, bc, rfl, HSM2.out, (HDN.out _ _).1⟩, (HDN.out _ _).2⟩
      by_cases z1 : z = 1
      · subst z1
        have k1 : x1.cell? ⟨w.heap.size + 1, 1, none⟩ = some (.slice ba bs.length bc) := bcell HT1.out.sb rfl
        obtain ⟨ba', bc', Y, hr, ⟨k2, k2f⟩, hst5⟩ := (HT1.out.alloc (.cells #[.string ⟨#[120]⟩, .string ⟨#[97]⟩, .string ⟨#[113]⟩] 45)).appB ⟨⟨#[120]⟩, ⟨#[97]⟩, ⟨#[113]⟩⟩ (bnew x1 _ _) (by omega) 25
        have HSM2 : Hid (Sm 200 es (bs ++ [(⟨⟨#[120]⟩, ⟨#[97]⟩, ⟨#[113]⟩⟩ : Bi)])) := ⟨by rw [List.length_append, List.length_singleton]; omega, HSM.out.eo, fun e he => by
          rcases List.mem_append.1 he with he | he
          · exact HSM.out.bo e he
          · rw [List.mem_singleton.1 he]; exact (by decide)⟩
        obtain ⟨x4, hx4⟩ : ∃ x4, Y.setCell ⟨w.heap.size + 1, 1, none⟩ (.slice ba' (bs.length + 1) bc') = x4 := ⟨_, rfl⟩
        rw [hx4] at hst5
        have HTT : Hid (St p a len cap w es (bs ++ [(⟨⟨#[120]⟩, ⟨#[97]⟩, ⟨#[113]⟩⟩ : Bi)]) ea ec ba' bc' x4) := hst5
        clear hst5 HT1 HSM
        have c0 : x4.cell? ⟨w.heap.size + 1, 0, none⟩ = some (.slice ea es.length ec) := bcell HTT.out.sb rfl
        have c1 : x4.cell? ⟨w.heap.size + 1, 1, none⟩ = some (.slice ba' ((bs ++ [(⟨⟨#[120]⟩, ⟨#[97]⟩, ⟨#[113]⟩⟩ : Bi)]) : List Bi).length bc') := bcell HTT.out.sb rfl
        have q0 : x4.cell? ⟨w.heap.size, 0, none⟩ = some (.slice none 0 0) := bcell HTT.out.rb rfl
        have q1 : x4.cell? ⟨w.heap.size, 1, none⟩ = some (.slice none 0 0) := bcell HTT.out.rb rfl
        have r0 := bfree HTT.out.rb 0
        have r1 := bfree HTT.out.rb 1
        have HDN : Hid (∀ y0 y1, Tr w.heap.size (res2 x4 w.heap.size y0 y1) es (bs ++ [(⟨⟨#[120]⟩, ⟨#[97]⟩, ⟨#[113]⟩⟩ : Bi)]) ea ec ba' bc' ∧ Cur (res2 x4 w.heap.size y0 y1) p a len cap ∧ On p w (res2 x4 w.heap.size y0 y1)) := fun y0 y1 => HTT.out.done y0 y1
        obtain ⟨eL, heL⟩ : ∃ x, es = x := ⟨_, rfl⟩
        obtain ⟨bL, hbL⟩ : ∃ x, (bs ++ [(⟨⟨#[120]⟩, ⟨#[97]⟩, ⟨#[113]⟩⟩ : Bi)]) = x := ⟨_, rfl⟩
        rw [heL] at HDN c0 HSM2
        rw [hbL] at HDN c1 HSM2
        clear heL hbL
        clear HTT
        go_wp2_with (at_builtin; refine cpr.wpList_append_run rfl _ _ _ _ rfl _ _ _ rfl rfl hr ?_)
        exact bodyPost_ret (v := .agg #[.slice ea eL.length ec, .slice ba' bL.length bc']) (by simp [results, Tryz.results21, go_sem, q0, q1]) rfl ⟨⟨eL, bL, ea, ec, ba', bc', rfl, HSM2.out, (HDN.out _ _).1⟩, (HDN.out _ _).2⟩
      by_cases z2 : z = 2
      · subst z2
        have HSM0 : Hid (Sm 100 es bs) := HSM.out.more (by omega)
        go_wp2
        go_loopw [75] (fun _ wr => ∃ (E : List Ex) (gg : Option Addr) (gc : Nat), E.length ≤ 61 ∧ Hid (Sm 100 E bs) ∧ Hid (St p a len cap w E bs gg gc ba bc wr)) (fun _ wr => 70 - lenC (w.heap.size + 1) 0 wr)
        case atStart => exact ⟨es, ea, ec, by omega, HSM0, HT1⟩
        case round =>
          obtain ⟨E, gg, gc, hE, HSM3, hst2⟩ := hrel
          clear HT1 HSM0 HSM
          have hlz : lenC (w.heap.size + 1) 0 wr = E.length := lenC_eq (bcell (j := 0) (v := .slice gg E.length gc) hst2.out.sb rfl)
          have HLZ : Hid (lenC (w.heap.size + 1) 0 wr = E.length) := hlz
          have hsz2 := hst2.out.size
          clear hlz
          go_wp2
          refine cht.region (σ := G) (ws := (fun s : G => [(69, .pointer (some ⟨w.heap.size + 1, 0, none⟩)), (70, .slice gg E.length gc), (71, .int .i64 E.length), (72, .pointer (some ⟨p, 0, none⟩)), (73, .int .i64 s.x), (74, .int .i64 (60 + s.x)), (75, .bool (decide ((E.length : Int) < 60 + s.x)))])) (js := [4]) (S := (fun g k W => St p a len cap w E bs gg gc ba bc W ∧ g.x < 2)) [69, 70, 71, 72, 73, 74, 75] ⟨0, 0, 0, ⟨#[]⟩, ⟨#[]⟩, ⟨#[]⟩, undef, false⟩ (by kernel_rfl) (by kernel_rfl) (fun _ => rfl) (by kernel_rfl) (by decide) ⟨hst2.out.step (Below.refl _ _).drew, by decide⟩ ?each ?fin
          case each =>
            refine ⟨cht.quiet 1 rfl (by decide) (.inl rfl) (by simp) (fun s => .pointer (some ⟨w.heap.size + 1, 0, none⟩)) (by rintro s _ ⟨⟩; exact dk.sets_on _ (by simp) _ rfl) (fun s k' W hk' hS => by simp [execOp, go_sem, Act.eval, dk.sets_get, List.lookup]), ?_⟩
            refine ⟨cht.quiet 1 rfl (by decide) (.inl rfl) (by simp) (fun s => .slice gg E.length gc) (by rintro s _ ⟨⟩; exact dk.sets_on _ (by simp) _ rfl) (fun s k' W hk' hS => by have c3 : W.cell? ⟨w.heap.size + 1, 0, none⟩ = some (.slice gg E.length gc) := bcell hS.1.sb rfl; simp [execOp, go_sem, Act.eval, dk.sets_get, List.lookup, c3]), ?_⟩
            refine ⟨cht.quiet 1 rfl (by decide) (.inl rfl) (by simp) (fun s => .int .i64 E.length) (by rintro s _ ⟨⟩; exact dk.sets_on _ (by simp) _ rfl) (fun s k' W hk' hS => by simp [go_sem, Act.eval, dk.sets_get, List.lookup]), ?_⟩
            refine ⟨cht.quiet 1 rfl (by decide) (.inl rfl) (by simp) (fun s => .pointer (some ⟨p, 0, none⟩)) (by rintro s _ ⟨⟩; exact dk.sets_on _ (by simp) _ rfl) (fun s k' W hk' hS => by simp [execOp, go_sem, Act.eval, dk.sets_get, List.lookup]), ?_⟩
            refine ⟨chd.call 0 [4, 5, 6] [73, 74, 75] (by kernel_rfl) (by kernel_rfl) rfl (by decide) rfl (.inl rfl) (by simp) 45 (fun s => #[.pointer (some ⟨p, 0, none⟩), .int .i64 2]) (fun s W hS => by exact ⟨by simp [go_sem, Act.eval, dk.sets_get, List.lookup], (draw_below p a len cap 2 W (by omega) hS.1.cur).mono fun e w9 hh => by obtain ⟨⟨z9, hz9, rfl⟩, k1, k2⟩ := hh; exact ⟨{ s with x := z9 }, _, rfl, (by simp [chd.But]), (by rintro _ ⟨⟩; exact dk.sets_on _ (by simp) _ rfl), hS.1.draw k1 k2, hz9⟩⟩), ?_⟩
            refine ⟨cht.quiet 1 rfl (by decide) (.inl rfl) (by simp) (fun s => .int .i64 (60 + s.x)) (by rintro s _ ⟨⟩; exact dk.sets_on _ (by simp) _ rfl) (fun s k' W hk' hS => by have h9 := hS.2; have hwr : IntKind.i64.wrap (60 + (s.x : Int)) = 60 + s.x := (by rw [IntKind.wrap_i64]; omega); simp [execOp, go_sem, Act.eval, dk.sets_get, List.lookup, hwr]), ?_⟩
            exact ⟨cht.quiet 1 rfl (by decide) (.inl rfl) (by simp) (fun s => .bool (decide ((E.length : Int) < 60 + s.x))) (by rintro s _ ⟨⟩; exact dk.sets_on _ (by simp) _ rfl) (fun s k' W hk' hS => by simp [execOp, go_sem, Act.eval, dk.sets_get, List.lookup]), trivial⟩
          case fin =>
            intro s x3 hS
            obtain ⟨hs3, hsx⟩ := hS
            have d2 : x3.cell? ⟨w.heap.size + 1, 0, none⟩ = some (.slice gg E.length gc) := bcell hs3.sb rfl
            have hs3z := hs3.size
            have HS3 : Hid (St p a len cap w E bs gg gc ba bc x3) := hs3
            clear hs3
            obtain ⟨sx, sy, sA, sT, sU, sC, sV, sB⟩ := s
            simp only at hsx
            simp only [dk.sets, Act.put, List.setIfInBounds_toArray, List.set_cons_succ, List.set_cons_zero]
            cases hcb : decide ((E.length : Int) < 60 + (sx : Int)) with
            | true =>
              have hlt0 := of_decide_eq_true hcb
              have hle4 : E.length ≤ 60 := by omega
              clear hcb hlt0
              have hw9 : IntKind.i64.wrap (100 + (E.length : Int)) = 100 + (E.length : Int) := by rw [IntKind.wrap_i64]; omega
              go_wp2
              refine cht.region (σ := G) (ws := (fun s : G => [(76, .pointer (some ⟨w.heap.size + 1, 0, none⟩)), (77, .slice gg E.length gc), (78, .pointer (some ⟨w.heap.size + 1, 0, none⟩)), (79, .slice gg E.length gc), (80, .int .i64 E.length), (81, .int .i64 (100 + E.length)), (82, .string s.t), (83, .string (⟨#[122]⟩ ++ s.t)), (84, .agg #[.string (⟨#[122]⟩ ++ s.t), .int .i64 0]), (85, .slice (some ⟨s.y, 0, none⟩) 1 1), (86, s.v), (87, .pointer (some ⟨w.heap.size + 1, 0, none⟩))])) (js := [6, 7, 8, 9, 10, 12]) (S := (fun g k W => (k ≤ 4 → St p a len cap w E bs gg gc ba bc W) ∧ (1 ≤ k → g.t.size ≤ 20) ∧ (k = 4 → W.heap[g.y]? = some (.cells #[.string (⟨#[122]⟩ ++ g.t), .int .i64 0] 75 (0, 0))) ∧ (k = 5 → ∃ ea' ec', g.v = .slice ea' (E.length + 1) ec' ∧ W.cell? ⟨w.heap.size + 1, 0, none⟩ = some (.slice gg E.length gc) ∧ W.frozen? ⟨w.heap.size + 1, 0, none⟩ = false ∧ St p a len cap w (E ++ [(⟨⟨#[122]⟩ ++ g.t, 0⟩ : Ex)]) bs ea' ec' ba bc (W.setCell ⟨w.heap.size + 1, 0, none⟩ (.slice ea' (E.length + 1) ec'))) ∧ (k = 6 → ∃ ea' ec', St p a len cap w (E ++ [(⟨⟨#[122]⟩ ++ g.t, 0⟩ : Ex)]) bs ea' ec' ba bc W) ∧ (k ≤ 5 → W.cell? ⟨w.heap.size + 1, 0, none⟩ = some (.slice gg E.length gc)))) [76, 77, 78, 79, 80, 81, 82, 83, 84, 85, 86, 87] ⟨0, 0, 0, ⟨#[]⟩, ⟨#[]⟩, ⟨#[]⟩, undef, false⟩ (by kernel_rfl) (by kernel_rfl) (fun _ => rfl) (by kernel_rfl) (by decide) ⟨fun _ => HS3.out.step (Below.refl _ _).drew, fun h => (by omega), fun h => (by omega), fun h => (by omega), fun h => (by omega), fun _ => bcell (HS3.out.step (Below.refl _ _).drew).sb rfl⟩ ?each ?fin
              case each =>
                refine ⟨cht.quiet 6 rfl (by decide) (.inl rfl) (by simp) (fun s => .pointer (some ⟨w.heap.size + 1, 0, none⟩)) (by rintro s _ ⟨⟩; exact dk.sets_on _ (by simp) _ rfl) (fun s k' W hk' hS => by simp [execOp, go_sem, Act.eval, dk.sets_get, List.lookup]), ?_⟩
                refine ⟨cht.quiet 5 rfl (by decide) (.inr ⟨12, _, rfl, rfl, ⟨1, .phase⟩, by simp, rfl, rfl⟩) (by simp) (fun s => .slice gg E.length gc) (by rintro s _ ⟨⟩; exact dk.sets_on _ (by simp) _ rfl) (fun s k' W hk' hS => by have c0 : W.cell? ⟨w.heap.size + 1, 0, none⟩ = some (.slice gg E.length gc) := hS.2.2.2.2.2 (by omega); simp [execOp, go_sem, Act.eval, dk.sets_get, List.lookup, c0]), ?_⟩
                refine ⟨cht.quiet 6 rfl (by decide) (.inl rfl) (by simp) (fun s => .pointer (some ⟨w.heap.size + 1, 0, none⟩)) (by rintro s _ ⟨⟩; exact dk.sets_on _ (by simp) _ rfl) (fun s k' W hk' hS => by simp [execOp, go_sem, Act.eval, dk.sets_get, List.lookup]), ?_⟩
                refine ⟨cht.quiet 5 rfl (by decide) (.inr ⟨12, _, rfl, rfl, ⟨3, .phase⟩, by simp, rfl, rfl⟩) (by simp) (fun s => .slice gg E.length gc) (by rintro s _ ⟨⟩; exact dk.sets_on _ (by simp) _ rfl) (fun s k' W hk' hS => by have c0 : W.cell? ⟨w.heap.size + 1, 0, none⟩ = some (.slice gg E.length gc) := hS.2.2.2.2.2 (by omega); simp [execOp, go_sem, Act.eval, dk.sets_get, List.lookup, c0]), ?_⟩
                refine ⟨cht.quiet 6 rfl (by decide) (.inl rfl) (by simp) (fun s => .int .i64 E.length) (by rintro s _ ⟨⟩; exact dk.sets_on _ (by simp) _ rfl) (fun s k' W hk' hS => by simp [go_sem, Act.eval, dk.sets_get, List.lookup]), ?_⟩
                refine ⟨cht.quiet 6 rfl (by decide) (.inl rfl) (by simp) (fun s => .int .i64 (100 + E.length)) (by rintro s _ ⟨⟩; exact dk.sets_on _ (by simp) _ rfl) (fun s k' W hk' hS => by simp [execOp, go_sem, Act.eval, dk.sets_get, List.lookup, hw9]), ?_⟩
                refine ⟨chd.call 0 [6, 7, 8, 9, 10, 11, 12] [82, 83, 84] (by kernel_rfl) (by kernel_rfl) rfl (by decide) rfl (.inl rfl) (by simp) 56 (fun s => #[.int .i64 (100 + E.length)]) (fun s W hS => by exact ⟨by simp [go_sem, Act.eval, dk.sets_get, List.lookup], (dt.spec_dec (100 + E.length) W (by omega) (by omega)).mono fun e w9 hh => by obtain ⟨rfl, rfl⟩ := hh; exact ⟨{ s with t := ⟨(Lib.itoa (100 + E.length)).toArray⟩ }, _, rfl, (by simp [chd.But]), (by rintro _ ⟨⟩; exact dk.sets_on _ (by simp) _ rfl), fun _ => hS.1 (by omega), fun _ => dec_small E.length (by omega), fun h => (by omega), fun h => (by omega), fun h => (by omega), fun _ => bcell (hS.1 (by omega)).sb rfl⟩⟩), ?_⟩
                refine ⟨chd.eff 1 [7, 8, 9, 10, 11, 12] [83, 84] (by kernel_rfl) (by kernel_rfl) rfl (by decide) rfl (.inr ⟨⟨6, .data⟩, by simp, rfl, rfl⟩) (by simp) (fun s W hS => by have h9 := hS.2.1 (by omega); have h8 : 1 + s.t.size ≤ 9223372036854775807 := (by omega); exact ⟨s, .string (⟨#[122]⟩ ++ s.t), W, (by simp [chd.But]), (by rintro _ ⟨⟩; exact dk.sets_on _ (by simp) _ rfl), (by simp [execOp, go_sem, Act.eval, dk.sets_get, List.lookup, h8]), fun _ => hS.1 (by omega), fun _ => hS.2.1 (by omega), fun h => (by omega), fun h => (by omega), fun h => (by omega), fun _ => bcell (hS.1 (by omega)).sb rfl⟩), ?_⟩
                refine ⟨chd.eff 2 [8, 9, 10, 11, 12] [84] (by kernel_rfl) (by kernel_rfl) rfl (by decide) rfl (.inr ⟨⟨7, .data⟩, by simp, rfl, rfl⟩) (by simp) (fun s W hS => by exact ⟨s, .agg #[.string (⟨#[122]⟩ ++ s.t), .int .i64 0], W, (by simp [chd.But]), (by rintro _ ⟨⟩; exact dk.sets_on _ (by simp) _ rfl), (by simp [execOp, go_sem, Act.eval, dk.sets_get, List.lookup]), fun _ => hS.1 (by omega), fun _ => hS.2.1 (by omega), fun h => (by omega), fun h => (by omega), fun h => (by omega), fun _ => bcell (hS.1 (by omega)).sb rfl⟩), ?_⟩
                refine ⟨chd.eff 3 [9, 10, 11, 12] [85] (by kernel_rfl) (by kernel_rfl) rfl (by decide) rfl (.inr ⟨⟨8, .data⟩, by simp, rfl, rfl⟩) (by simp) (fun s W hS => by exact ⟨{ s with y := W.heap.size }, .slice (some ⟨W.heap.size, 0, none⟩) 1 1, W.alloc (.cells #[.string (⟨#[122]⟩ ++ s.t), .int .i64 0] 75), (by simp [chd.But]), (by rintro _ ⟨⟩; exact dk.sets_on _ (by simp) _ rfl), (by simp [execOp, go_sem, Act.eval, dk.sets_get, List.lookup]), fun _ => (hS.1 (by omega)).alloc _, fun _ => hS.2.1 (by omega), fun _ => bnew W _ _, fun h => (by omega), fun h => (by omega), fun _ => bcell ((hS.1 (by omega)).alloc _).sb rfl⟩), ?_⟩
                refine ⟨chd.eff 4 [10, 11, 12] [86] (by kernel_rfl) (by kernel_rfl) rfl (by decide) rfl (.inr ⟨⟨9, .data⟩, by simp, rfl, rfl⟩) (by simp) (fun s W hS => by obtain ⟨ea', ec', Y', hr, ⟨n1, n2⟩, hst⟩ := (hS.1 (by omega)).appE ⟨⟨#[122]⟩ ++ s.t, 0⟩ (hS.2.2.1 rfl) (by omega) 24; exact ⟨{ s with v := .slice ea' (E.length + 1) ec' }, .slice ea' (E.length + 1) ec', Y', (by simp [chd.But]), (by rintro _ ⟨⟩; exact dk.sets_on _ (by simp) _ rfl), chd.app_run rfl (by simp [Act.eval, dk.sets_get, List.lookup]) (by simp [Act.eval, dk.sets_get, List.lookup]) hr, fun h => (by omega), fun _ => hS.2.1 (by omega), fun h => (by omega), fun _ => ⟨ea', ec', rfl, n1, n2, hst⟩, fun h => (by omega), fun _ => n1⟩), ?_⟩
                refine ⟨cht.quiet 6 rfl (by decide) (.inl rfl) (by simp) (fun s => .pointer (some ⟨w.heap.size + 1, 0, none⟩)) (by rintro s _ ⟨⟩; exact dk.sets_on _ (by simp) _ rfl) (fun s k' W hk' hS => by simp [execOp, go_sem, Act.eval, dk.sets_get, List.lookup]), ?_⟩
                exact ⟨cht.sto 5 rfl (by decide) rfl (.inr ⟨⟨10, .data⟩, by simp, rfl, rfl⟩) (by simp) rfl (fun s W hS => by obtain ⟨ea', ec', hv, n1, n2, hst⟩ := hS.2.2.2.1 rfl; exact ⟨W.setCell ⟨w.heap.size + 1, 0, none⟩ (.slice ea' (E.length + 1) ec'), by simp [execOp, go_sem, Act.eval, dk.sets_get, List.lookup, hv, n1, n2], fun h => (by omega), fun _ => hS.2.1 (by omega), fun h => (by omega), fun h => (by omega), fun _ => ⟨ea', ec', hst⟩, fun h => (by omega)⟩), trivial⟩
              case fin =>
                intro s x4 hS
                obtain ⟨ea', ec', hst5⟩ := hS.2.2.2.2.1 rfl
                have hst6 := hS.2.1 (by decide)
                have HSM6 : Hid (Sm 100 (E ++ [(⟨⟨#[122]⟩ ++ s.t, 0⟩ : Ex)]) bs) := ⟨by rw [List.length_append, List.length_singleton]; omega, fun e he => by
                  rcases List.mem_append.1 he with he | he
                  · exact HSM3.out.eo e he
                  · rw [List.mem_singleton.1 he]; show (⟨#[122]⟩ ++ s.t : ByteArray).size ≤ 40; rw [ByteArray.size_append]; show 1 + s.t.size ≤ 40; omega, HSM3.out.bo⟩
                have HLE : Hid ((E ++ [(⟨⟨#[122]⟩ ++ s.t, 0⟩ : Ex)]).length = E.length + 1) := by unfold Hid; simp
                have hlz2 : lenC (w.heap.size + 1) 0 x4 = E.length + 1 := by
                  have h9 := hst5.sb
                  rw [HLE.out] at h9
                  exact lenC_eq (bcell (j := 0) h9 rfl)
                have HLZ2 : Hid (lenC (w.heap.size + 1) 0 x4 = E.length + 1) := hlz2
                have HST6 : Hid (St p a len cap w (E ++ [(⟨⟨#[122]⟩ ++ s.t, 0⟩ : Ex)]) bs ea' ec' ba bc x4) := hst5
                clear hlz2 hst5 hst6 hS HS3 d2
                simp only [dk.sets, Act.put, List.setIfInBounds_toArray, List.set_cons_succ, List.set_cons_zero]
                go_wp2
                go_roundw
                case rel => exact ⟨_, ea', ec', by rw [HLE.out]; omega, HSM6, HST6⟩
                case measure => rw [HLZ.out, HLZ2.out]; omega
            | false =>
              clear hcb
              have HSM2 : Hid (Sm 200 E bs) := HSM3.out.more (by omega)
              have HTT : Hid (St p a len cap w E bs gg gc ba bc x3) := HS3
              clear HS3 d2
              have c0 : x3.cell? ⟨w.heap.size + 1, 0, none⟩ = some (.slice gg E.length gc) := bcell HTT.out.sb rfl
              have c1 : x3.cell? ⟨w.heap.size + 1, 1, none⟩ = some (.slice ba bs.length bc) := bcell HTT.out.sb rfl
              have q0 : x3.cell? ⟨w.heap.size, 0, none⟩ = some (.slice none 0 0) := bcell HTT.out.rb rfl
              have q1 : x3.cell? ⟨w.heap.size, 1, none⟩ = some (.slice none 0 0) := bcell HTT.out.rb rfl
              have r0 := bfree HTT.out.rb 0
              have r1 := bfree HTT.out.rb 1
              have HDN : Hid (∀ y0 y1, Tr w.heap.size (res2 x3 w.heap.size y0 y1) E bs gg gc ba bc ∧ Cur (res2 x3 w.heap.size y0 y1) p a len cap ∧ On p w (res2 x3 w.heap.size y0 y1)) := fun y0 y1 => HTT.out.done y0 y1
              clear HTT
              go_wp2
              exact bodyPost_ret (v := .agg #[.slice gg E.length gc, .slice ba bs.length bc]) (by simp [results, Tryz.results21, go_sem, q0, q1]) rfl ⟨⟨E, bs, gg, gc, ba, bc, rfl, HSM2.out, (HDN.out _ _).1⟩, (HDN.out _ _).2⟩
      have f0 : ((z : Int) == 0) = false := by simp; omega
      have f1 : ((z : Int) == 1) = false := by simp; omega
      have f2 : ((z : Int) == 2) = false := by simp; omega
      have HSM2 : Hid (Sm 200 es bs) := HSM.out.more (by omega)
      have HTT : Hid (St p a len cap w es bs ea ec ba bc x1) := HT1
      clear HT1 HSM
      have c0 : x1.cell? ⟨w.heap.size + 1, 0, none⟩ = some (.slice ea es.length ec) := bcell HTT.out.sb rfl
      have c1 : x1.cell? ⟨w.heap.size + 1, 1, none⟩ = some (.slice ba bs.length bc) := bcell HTT.out.sb rfl
      have q0 : x1.cell? ⟨w.heap.size, 0, none⟩ = some (.slice none 0 0) := bcell HTT.out.rb rfl
      have q1 : x1.cell? ⟨w.heap.size, 1, none⟩ = some (.slice none 0 0) := bcell HTT.out.rb rfl
      have r0 := bfree HTT.out.rb 0
      have r1 := bfree HTT.out.rb 1
      have HDN : Hid (∀ y0 y1, Tr w.heap.size (res2 x1 w.heap.size y0 y1) es bs ea ec ba bc ∧ Cur (res2 x1 w.heap.size y0 y1) p a len cap ∧ On p w (res2 x1 w.heap.size y0 y1)) := fun y0 y1 => HTT.out.done y0 y1
      clear HTT
      go_wp2
      exact bodyPost_ret (v := .agg #[.slice ea es.length ec, .slice ba bs.length bc]) (by simp [results, Tryz.results21, go_sem, q0, q1]) rfl ⟨⟨es, bs, ea, ec, ba, bc, rfl, HSM2.out, (HDN.out _ _).1⟩, (HDN.out _ _).2⟩
end Go.Proofs.YtnooibeohdfcmaaGreatDoor.dtr

/- The specification's draw of a plain key. -/
namespace Go.Proofs.YtnooibeohdfcmaaGreatDoor.dpl
set_option linter.unusedVariables false
open Go.ChangeShapes Go.WideShapes Go.ChangeAt Go.RowKit Go.Proofs.YtnooibeohdfcmaaGreatDoor.dw

def abc : List ByteArray := [⟨#[97]⟩, ⟨#[98]⟩, ⟨#[99]⟩]
theorem abc_in : ∀ z ∈ abc, z.size ≤ 1 := by decide
set_option maxRecDepth 100000 in
set_option maxHeartbeats 1000000 in
theorem draw_plain (p : Nat) (a : Option Addr) (len cap : Nat) (w : World) (hc : Cur w p a len cap) :
    Calls Tryz.prog 25 #[.pointer (some ⟨p, 0, none⟩)] w fun e w' => (∃ s : ByteArray, s.size ≤ 5 ∧ e = .returned (.string s)) ∧ Cur w' p a len cap ∧ On p w w' := by
  have hp := hc.lt
  have h1 := draw_pick p a len cap w.heap.size 3 abc _ (by omega) (by omega) (at_texts w abc 9) (hc.alloc _)
  clear hc
  go_enter Tryz.func25, Tryz.ntmps25
  go_wp2_with (first | (go_at_call 36; refine h1.mono ?_; rintro e w1 ⟨⟨z, hz, rfl⟩, hc1, hb1⟩) | (go_at_call 45; refine (draw_below p a len cap 3 w1 (by omega) hc1).mono ?_; rintro e w2 ⟨⟨n, hn, rfl⟩, hc2, hb2⟩))
  have hz1 := abc_in z hz
  have hon : On p w w2 := (((On.refl p w).alloc _).trans hb1).trans hb2
  have HC2 : Hid (Cur w2 p a len cap) := hc2
  clear h1 hc1 hb1 hc2 hb2 hz
  go_loopw [3, 5] (fun y x wr => ∃ (j : Nat) (s : ByteArray), j ≤ n ∧ x = .int .i64 j ∧ y = .string s ∧ s.size ≤ 1 + 2 * j ∧ Hid (Cur wr p a len cap) ∧ On p w wr) (fun _ x _ => n - (intOf x).toNat)
  case atStart => exact ⟨0, z, Nat.zero_le _, rfl, rfl, by omega, HC2, hon⟩
  case round =>
    obtain ⟨j, s, hj, rfl, rfl, hs, hcur, honr⟩ := hrel
    have hpr := hcur.out.lt
    by_cases hjn : j < n
    · have g1 := draw_pick p a len cap wr.heap.size 3 abc _ (by omega) (by omega) (at_texts wr abc 9) (hcur.out.alloc _)
      have hs9 : s.size ≤ 1000 := by omega
      have HS : Hid (s.size ≤ 1 + 2 * j) := hs
      clear hs
      go_wp2_with (go_at_call 36; refine g1.mono ?_; rintro e x1 ⟨⟨y, hy, rfl⟩, hd1, hf1⟩; have hy1 := abc_in y hy; clear hy)
      have HD1 : Hid (Cur x1 p a len cap) := hd1
      have hf2 := (honr.alloc (.cells (abc.map Value.string).toArray 9)).trans hf1
      clear g1 hd1 hf1 hcur
      go_roundw
      case rel => exact ⟨j + 1, _, by omega, by go_num, rfl, by rw [ByteArray.size_append, ByteArray.size_append]; have := HS.out; have : (⟨#[46]⟩ : ByteArray).size = 1 := rfl; omega, HD1, hf2⟩
      case measure => simp [intOf]; omega
    · obtain rfl : j = n := by omega
      go_wp2
      go_ret
      exact ⟨⟨s, by omega, rfl⟩, hcur.out, honr⟩

end Go.Proofs.YtnooibeohdfcmaaGreatDoor.dpl
