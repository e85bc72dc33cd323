/- Two messages held beside each other as a whole: what == and != of the struct answer. -/
import Derived.Test.YtnlcmheahihlpaaQw18
import Derived.Test.YtnlcmheahihlpaaQw08
import Derived.Test.YtnlcmheahihlpaaFlMessage
import Derived.Laws.StructEq
import Derived.Lib.Strings

/- The program's putBack: held messages put one by one into an open queue. -/
namespace Go.Proofs.Ytnlcmheahihlpaa.qri
open Go.ChangeShapes Go.WideShapes Go.ChangeAt Go.RowKit Go.Proofs.Ytnlcmheahihlpaa.fl Go.Proofs.Ytnlcmheahihlpaa.fo Go.Proofs.Ytnlcmheahihlpaa.qit Go.Proofs.Ytnlcmheahihlpaa.qst Go.Proofs.Ytnlcmheahihlpaa.qpu Go.Proofs.Ytnlcmheahihlpaa.qpo Go.Proofs.Ytnlcmheahihlpaa.qop Go.Proofs.Ytnlcmheahihlpaa.qcl Go.Proofs.Ytnlcmheahihlpaa.qsp Go.Proofs.Ytnlcmheahihlpaa.qdp Go.Proofs.Ytnlcmheahihlpaa.qpi Go.Proofs.Ytnlcmheahihlpaa.qhn Go.Proofs.Ytnlcmheahihlpaa.qdi Go.Proofs.Ytnlcmheahihlpaa.qbk
set_option linter.unusedVariables false

theorem all_kt {W W' : World} {B hb : Nat} {v : Value} {l : List flH.Hd} (h : All W B v l) (hk : Kt hb W W') (hhb : hb < B) : All W' B v l := by
  rcases h with h | ⟨g, cap, e, ho⟩
  · exact .inl h
  · refine (All.keep (.inr ⟨g, cap, e, ho⟩) fun g' hg' => ?_)
    rw [e] at hg'
    obtain ⟨hBg, cur, hc⟩ := owns_at ho
    have : g = g' := by simpa [Value.ownBlock] using hg'
    subst this
    exact hk.2 g cur 55 hc (by decide) (by omega)
theorem all_ho2 {w w6 : World} {B b hb g5 : Nat} {ub : Option Addr} {uc gr : Nat} {l : List flH.Hd} (h : All w B (.slice ub l.length uc) l) (hg : w.heap.size ≤ gr) (hbl : b < w.heap.size) (hkq : Kq hb g5 w w6) (hrow : ∃ cur, w.heap[g5]? = some (.cells cur 41 (0, 0))) (hhb : hb < B) : ∃ k, (B ≤ k ∨ k = b) ∧ gr ≠ k ∧ HO w6 k ub l ∧ k < w.heap.size := by
  rcases h with ⟨e, _⟩ | ⟨k, cap, e, ho⟩
  · exact ⟨b, .inr rfl, by omega, .inl e, hbl⟩
  · have hlt := ho.lt k rfl
    cases e
    obtain ⟨_, cur, hc⟩ := owns_at ho
    obtain ⟨cur', hc'⟩ := hrow
    have hne : k ≠ g5 := by
      rintro rfl
      rw [hc] at hc'
      simp at hc'
    exact ⟨k, .inl hlt.1, by omega, .inr ⟨rfl, (owns_ownO flH.c_len ho).kept (hkq.block k hlt.2 hne (by omega))⟩, hlt.2⟩
/-- what stands in the loop -/
structure RI (w1 : World) (hb : Nat) (Q : Qx) (g : Nat) (es : List flM.Ms) (B : Nat) (vb ub : Option Addr) (vc uc : Nat) (GL LL : List flH.Hd) (k : Nat) (M : List flM.Ms) (X : World) : Prop where
  sn : SN w1 hb Q M X
  hp : hp.Heap less M M.length
  pm : M.Perm (es ++ (GL.take k).map again)
  sg : k = 0 → SG w1 hb Q g es.length es X ∧ M = es
  av : All X B (.slice vb GL.length vc) GL
  au : All X B (.slice ub LL.length uc) LL
  hbB : hb < B
  hS : B ≤ X.heap.size
section
variable {w1 : World} {hb : Nat} {Q : Qx} {g : Nat} {es : List flM.Ms} {B : Nat} {vb ub : Option Addr} {vc uc : Nat} {GL LL : List flH.Hd} {k : Nat} {M M' : List flM.Ms} {X Y : World}
theorem RI.on (h : RI w1 hb Q g es B vb ub vc uc GL LL k M X) (hb' : Below X.heap.size X Y) : RI w1 hb Q g es B vb ub vc uc GL LL k M Y :=
  ⟨SN.on h.sn hb', h.hp, h.pm, fun e => ⟨(h.sg e).1.on hb', (h.sg e).2⟩, h.av.on hb', h.au.on hb', h.hbB, Nat.le_trans h.hS hb'.size⟩
theorem RI.put {e : flH.Hd} (h : RI w1 hb Q g es B vb ub vc uc GL LL k M X) (he : GL[k]? = some e) (h1 : M'.Perm (M ++ [again e])) (h2 : hp.Heap less M' M'.length) (h3 : SN w1 hb Q M' Y) (h4 : Kt hb X Y) : RI w1 hb Q g es B vb ub vc uc GL LL (k + 1) M' Y := by
  refine ⟨h3, h2, ?_, fun e => by omega, all_kt h.av h4 h.hbB, all_kt h.au h4 h.hbB, h.hbB, Nat.le_trans h.hS h4.1⟩
  refine h1.trans ?_
  rw [List.take_add_one, he]
  simp only [Option.toList_some, List.map_append, List.map_cons, List.map_nil]
  rw [← List.append_assoc]
  exact h.pm.append_right _
theorem RI.len (h : RI w1 hb Q g es B vb ub vc uc GL LL k M X) (hk : k ≤ GL.length) : M.length = es.length + k := by rw [h.pm.length_eq]; simp [Nat.min_eq_left hk]
theorem RI.open (h : RI w1 hb Q g es B vb ub vc uc GL LL k M X) (hk : k ≤ GL.length) : ∃ g5 cap5, SG w1 hb Q g5 cap5 M X := by
  by_cases h0 : k = 0
  · obtain ⟨h1, h2⟩ := h.sg h0
    rw [h2]
    exact ⟨_, _, h1⟩
  · exact h.sn.sg (fun e => by have := h.len hk; rw [e] at this; simp at this; omega)
end
theorem row7 {w : World} {B g k : Nat} {l : List flH.Hd} {e : flH.Hd} (h : Row flH.c 7 w B (some ⟨g, 0, none⟩) l) (he : l[k]? = some e) : ∀ (j : Nat) (u : Value), (flH.c e)[j]? = some u → w.cell? ⟨g, k * 7 + j, none⟩ = some u := fun j u hj => by
  rcases h with h0 | ⟨b', off', hh, hlt, hc⟩
  · rw [h0] at he; simp at he
  · cases hh
    have := hc k _ he j u hj
    rwa [Nat.zero_add] at this

set_option maxRecDepth 100000 in
set_option maxHeartbeats 4000000 in
theorem put_back (w1 : World) (hb : Nat) (Q : Qx) (g : Nat) (es : List flM.Ms) (B : Nat) (vb ub : Option Addr) (vc uc : Nat) (GL LL : List flH.Hd) (w3 : World) (HR0 : Hid (RI w1 hb Q g es B vb ub vc uc GL LL 0 es w3)) (hgle : es.length + GL.length ≤ 900) :
    Calls Try.prog 24 #[.pointer (some ⟨hb, 0, none⟩), .slice vb GL.length vc] w3 fun e w' => e = .returned (.tuple #[]) ∧ ∃ M, Hid (RI w1 hb Q g es B vb ub vc uc GL LL GL.length M w') := by
  go_enter Try.func24, Try.ntmps24
  go_wp2
  go_loopw [8] (fun v wr => ∃ k : Nat, k ≤ GL.length ∧ v = .int .i64 k ∧ ∃ M, Hid (RI w1 hb Q g es B vb ub vc uc GL LL k M wr)) (fun v _ => GL.length - (intOf v).toNat)
  case atStart => exact ⟨0, Nat.zero_le _, rfl, _, HR0⟩
  case round =>
    obtain ⟨k, hk, rfl, M, hR⟩ := hrel
    clear HR0
    have HML : Hid (M.length = es.length + k) := hR.out.len hk
    by_cases hkl : k < GL.length
    · have i2 : (k : Int) < (GL.length : Int) := by omega
      have HG : Hid (GL[k]? = some GL[k]) := List.getElem?_eq_getElem hkl
      obtain ⟨⟨ht, ho, ⟨q, x, y, z, ag⟩⟩, he⟩ : ∃ e, GL[k] = e := ⟨_, rfl⟩
      rw [he] at HG
      obtain ⟨v0, rfl⟩ := qrs.all_some hR.out.av HG.out
      have cs := row7 hR.out.av.row HG.out
      have c0 : wr.cell? ⟨v0, k * 7, none⟩ = some (.int .i64 ht) := cs 0 _ rfl
      have c1 : wr.cell? ⟨v0, k * 7 + 1, none⟩ = some (.int .i64 ho) := cs 1 _ rfl
      have c2 : wr.cell? ⟨v0, k * 7 + 2, none⟩ = some (.int .i64 q) := cs 2 _ rfl
      have c3 : wr.cell? ⟨v0, k * 7 + 3, none⟩ = some (.string x) := cs 3 _ rfl
      have c4 : wr.cell? ⟨v0, k * 7 + 4, none⟩ = some (.string y) := cs 4 _ rfl
      have c5 : wr.cell? ⟨v0, k * 7 + 5, none⟩ = some (.string z) := cs 5 _ rfl
      have c6 : wr.cell? ⟨v0, k * 7 + 6, none⟩ = some (.bool ag) := cs 6 _ rfl
      have hst : Below wr.heap.size wr (wr.alloc (.cells #[.int .i64 ht, .int .i64 ho, .int .i64 q, .string x, .string y, .string z, .bool true] 55)) := (Below.refl _ _).alloc (Nat.le_refl _) _
      have HRW : Hid (RI w1 hb Q g es B (some ⟨v0, 0, none⟩) ub vc uc GL LL k M (wr.alloc (.cells #[.int .i64 ht, .int .i64 ho, .int .i64 q, .string x, .string y, .string z, .bool true] 55))) := hR.out.on hst
      have hpt := put_run w1 Q hb M ⟨q, x, y, z, true⟩ (wr.alloc (.cells #[.int .i64 ht, .int .i64 ho, .int .i64 q, .string x, .string y, .string z, .bool true] 55)) HRW.out.sn HRW.out.hp (by have := HML.out; omega)
      clear he cs hst hR
      go_wp2_with (go_at_call 50; fail)
      refine hpt.mono ?_
      rintro e w4 ⟨rfl, M', hMp, hMh, hsn, hkt⟩
      have HRN : Hid (RI w1 hb Q g es B (some ⟨v0, 0, none⟩) ub vc uc GL LL (k + 1) M' w4) := HRW.out.put HG.out hMp hMh hsn hkt
      clear hpt hMp hMh hsn hkt c0 c1 c2 c3 c4 c5 c6 HRW
      go_wp2
      go_roundw
      case rel => exact ⟨k + 1, by omega, by go_num, _, HRN⟩
      case measure => simp [intOf]; omega
    · obtain rfl : k = GL.length := by omega
      have HF : Hid (∃ M, Hid (RI w1 hb Q g es B vb ub vc uc GL LL GL.length M wr)) := ⟨M, hR⟩
      clear hR HML
      go_wp2
      go_end0
      exact ⟨rfl, HF.out⟩
end Go.Proofs.Ytnlcmheahihlpaa.qri

/- The program's Return: as the specification's, its answer in rows of its own. -/
namespace Go.Proofs.Ytnlcmheahihlpaa.qri
open Go.ChangeShapes Go.WideShapes Go.ChangeAt Go.RowKit Go.Proofs.Ytnlcmheahihlpaa.fl Go.Proofs.Ytnlcmheahihlpaa.fo Go.Proofs.Ytnlcmheahihlpaa.qit Go.Proofs.Ytnlcmheahihlpaa.qst Go.Proofs.Ytnlcmheahihlpaa.qpu Go.Proofs.Ytnlcmheahihlpaa.qpo Go.Proofs.Ytnlcmheahihlpaa.qop Go.Proofs.Ytnlcmheahihlpaa.qcl Go.Proofs.Ytnlcmheahihlpaa.qsp Go.Proofs.Ytnlcmheahihlpaa.qdp Go.Proofs.Ytnlcmheahihlpaa.qpi Go.Proofs.Ytnlcmheahihlpaa.qhn Go.Proofs.Ytnlcmheahihlpaa.qdi Go.Proofs.Ytnlcmheahihlpaa.qbk
set_option linter.unusedVariables false

set_option maxRecDepth 100000 in
set_option maxHeartbeats 4000000 in
theorem impl_ret (nm : ByteArray) (nx : Int) (es : List flM.Ms) (ms : List flH.Hd) (a0 b0 : Option Addr) (ec bc : Nat) (o t : Int) (a : Bool) (w : World) (F : Fit nm es ms) (hE : Row flM.c 5 w w.heap.size a0 es) (hB : Row flH.c 7 w w.heap.size b0 ms) :
    Calls Try.prog 6 #[.agg #[.string nm, .int .i64 nx, .slice a0 es.length ec, .slice b0 ms.length bc], .int .i64 o, .int .i64 t, .bool a] w fun e w' => PD w nm nx (ansR nm nx es ms o t a) (ansH nm nx es ms o t a) (ansC nm nx es ms o t a) e w' := by
  have hWb : Below w.heap.size w ((w.alloc (.cells #[.string nm, .int .i64 nx, .slice a0 es.length ec, .slice b0 ms.length bc] 27)).alloc (.cells #[.string ⟨#[]⟩, .int .i64 0, .slice none 0 0, .slice none 0 0] 27)) := ((Below.refl _ _).alloc (Nat.le_refl _) _).alloc (by simp) _
  have hA := bold (bnew w #[.string nm, .int .i64 nx, .slice a0 es.length ec, .slice b0 ms.length bc] 27) (.cells #[.string ⟨#[]⟩, .int .i64 0, .slice none 0 0, .slice none 0 0] 27)
  have hR := bnew (w.alloc (.cells #[.string nm, .int .i64 nx, .slice a0 es.length ec, .slice b0 ms.length bc] 27)) #[.string ⟨#[]⟩, .int .i64 0, .slice none 0 0, .slice none 0 0] 27
  rw [World.size_alloc] at hR
  obtain ⟨W, hW⟩ : ∃ W, (w.alloc (.cells #[.string nm, .int .i64 nx, .slice a0 es.length ec, .slice b0 ms.length bc] 27)).alloc (.cells #[.string ⟨#[]⟩, .int .i64 0, .slice none 0 0, .slice none 0 0] 27) = W := ⟨_, rfl⟩
  have hWs : W.heap.size = w.heap.size + 2 := by rw [← hW]; simp
  rw [hW] at hWb hA hR
  have HA : Hid (W.heap[w.heap.size]? = some (.cells #[.string nm, .int .i64 nx, .slice a0 es.length ec, .slice b0 ms.length bc] 27 (0, 0))) := hA
  have HR : Hid (W.heap[w.heap.size + 1]? = some (.cells #[.string ⟨#[]⟩, .int .i64 0, .slice none 0 0, .slice none 0 0] 27 (0, 0))) := hR
  have HE : Hid (Row flM.c 5 W W.heap.size a0 es) := hE.inn hWb
  have HB : Hid (Row flH.c 7 W W.heap.size b0 ms) := hB.inn hWb
  have HF : Hid (Fit nm es ms) := F
  have BX : Hid (∀ V, Below W.heap.size W V → (V.cell? ⟨w.heap.size, 0, none⟩ = some (.string nm) ∧ V.cell? ⟨w.heap.size, 1, none⟩ = some (.int .i64 nx) ∧ V.cell? ⟨w.heap.size, 2, none⟩ = some (.slice a0 es.length ec) ∧ V.cell? ⟨w.heap.size, 3, none⟩ = some (.slice b0 ms.length bc)) ∧ (V.cell? ⟨w.heap.size + 1, 0, none⟩ = some (.string ⟨#[]⟩) ∧ V.cell? ⟨w.heap.size + 1, 1, none⟩ = some (.int .i64 0) ∧ V.cell? ⟨w.heap.size + 1, 2, none⟩ = some (.slice none 0 0) ∧ V.cell? ⟨w.heap.size + 1, 3, none⟩ = some (.slice none 0 0)) ∧ V.frozen? ⟨w.heap.size + 1, 0, none⟩ = false ∧ V.frozen? ⟨w.heap.size + 1, 1, none⟩ = false ∧ V.frozen? ⟨w.heap.size + 1, 2, none⟩ = false ∧ V.frozen? ⟨w.heap.size + 1, 3, none⟩ = false) := fun V hV => by
    have a := bstay HA.out hV (by omega)
    have r := bstay HR.out hV (by omega)
    exact ⟨⟨bcell a rfl, bcell a rfl, bcell a rfl, bcell a rfl⟩, ⟨bcell r rfl, bcell r rfl, bcell r rfl, bcell r rfl⟩, bfree r 0, bfree r 1, bfree r 2, bfree r 3⟩
  have hok := impl_okb nm nx es ms _ _ ec bc W F HE.out HB.out
  have CP : Hid (∀ V, Below W.heap.size W V → Calls Try.prog 21 #[.agg #[.string nm, .int .i64 nx, .slice a0 es.length ec, .slice b0 ms.length bc]] V fun r w' => ∃ g h, r = .returned (.agg #[.string nm, .int .i64 nx, .slice (some ⟨g, 0, none⟩) es.length es.length, .slice (some ⟨h, 0, none⟩) ms.length ms.length]) ∧ V.heap.size ≤ g ∧ V.heap.size ≤ h ∧ g ≠ h ∧ Own flM.c 5 41 w' g es es.length ∧ Own flH.c 7 55 w' h ms ms.length ∧ Below V.heap.size V w') := fun V hV => cqu.copy_queue nm nx es ms a0 b0 ec bc V F.ns F.el F.ml F.eb F.mb (HE.out.inn hV) (HB.out.inn hV)
  have HAH : Hid (ansH nm nx es ms o t a = if okB nm nx es ms = true then left o t a ms else ms) := rfl
  have HAR : Hid (ansR nm nx es ms o t a = if okB nm nx es ms = true then backs es (gone o t a ms) else es) := rfl
  have HAC : Hid (ansC nm nx es ms o t a = if okB nm nx es ms = true then ((gone o t a ms).length : Int) else 0) := rfl
  obtain ⟨AH, hAH⟩ : ∃ AH, ansH nm nx es ms o t a = AH := ⟨_, rfl⟩
  obtain ⟨AC, hAC⟩ : ∃ AC, ansC nm nx es ms o t a = AC := ⟨_, rfl⟩
  obtain ⟨AR, hAR⟩ : ∃ AR, ansR nm nx es ms o t a = AR := ⟨_, rfl⟩
  rw [hAR] at HAR
  rw [hAH] at HAH
  rw [hAC] at HAC
  simp only [hAH, hAC, hAR]
  obtain ⟨⟨x0, x1, x2, x3⟩, _, _⟩ := BX.out W (Below.refl _ _)
  clear hE hB hA hR F hAH hAC hAR
  go_enter Try.func6, Try.ntmps6
  go_wp2_with (go_at_call 11; fail)
  clear hW
  refine hok.mono ?_
  rintro e w1 ⟨rfl, hb1⟩
  obtain ⟨ob, hob⟩ : ∃ ob, okB nm nx es ms = ob := ⟨_, rfl⟩
  rw [hob]
  obtain ⟨⟨x0, x1, x2, x3⟩, ⟨z0, z1, z2, z3⟩, f0, f1, f2, f3⟩ := BX.out w1 hb1
  rw [hob] at HAH HAC HAR
  cases ob with
  | false =>
    obtain rfl : ms = AH := HAH.out.symm
    obtain rfl : es = AR := HAR.out.symm
    obtain rfl : (0 : Int) = AC := HAC.out.symm
    have hcq := CP.out w1 hb1
    clear hok hob HAH HAC HAR
    go_wp2_with (go_at_call 21; fail)
    clear x0 x1 x2 x3 z0 z1 z2 z3 f0 f1 f2 f3
    refine hcq.mono ?_
    rintro e w2 ⟨g, h, rfl, hg, hh, hgh, oe, om, hb2⟩
    have hB2 : Below W.heap.size W w2 := hb1.trans (hb2.mono hb1.size)
    obtain ⟨_, ⟨z0, z1, z2, z3⟩, f0, f1, f2, f3⟩ := BX.out w2 hB2
    have hs1 := hb1.size
    have hgl := oe.lt
    have hhl := om.lt
    have HFN : Hid (OwnO flM.c 5 41 w2 g 0 es es.length ∧ OwnO flH.c 7 55 w2 h 0 ms ms.length ∧ Below w.heap.size w w2) := ⟨of_own oe, of_own om, hWb.trans (hB2.mono hWb.size)⟩
    clear hcq oe om hb2 hB2
    go_wp2
    refine bodyPost_ret (v := .tuple #[.agg #[.string nm, .int .i64 nx, .slice (some ⟨g, 0, none⟩) es.length es.length, .slice (some ⟨h, 0, none⟩) ms.length ms.length], .int .i64 0]) (by simp [results, Try.results6, go_sem, z0, z1, z2, z3]) rfl ⟨g, _, h, _, _, rfl, by omega, by omega, hgh, by simp only [World.size_setCell]; omega, ?_, ?_, ?_⟩
    · exact (((HFN.out.1.kept (Below.heap_setCell _ _ _ _ (by show g ≠ w.heap.size + 1; omega))).kept (Below.heap_setCell _ _ _ _ (by show g ≠ w.heap.size + 1; omega))).kept (Below.heap_setCell _ _ _ _ (by show g ≠ w.heap.size + 1; omega))).kept (Below.heap_setCell _ _ _ _ (by show g ≠ w.heap.size + 1; omega))
    · exact .inr ⟨rfl, (((HFN.out.2.1.kept (Below.heap_setCell _ _ _ _ (by show h ≠ w.heap.size + 1; omega))).kept (Below.heap_setCell _ _ _ _ (by show h ≠ w.heap.size + 1; omega))).kept (Below.heap_setCell _ _ _ _ (by show h ≠ w.heap.size + 1; omega))).kept (Below.heap_setCell _ _ _ _ (by show h ≠ w.heap.size + 1; omega))⟩
    · exact (((HFN.out.2.2.setCell (by show w.heap.size ≤ w.heap.size + 1; omega) _).setCell (by show w.heap.size ≤ w.heap.size + 1; omega) _).setCell (by show w.heap.size ≤ w.heap.size + 1; omega) _).setCell (by show w.heap.size ≤ w.heap.size + 1; omega) _
  | true =>
    have HOK : Hid (qk.OkQ nm nx es ms) := okB_true.1 hob
    have hln := HOK.out.ln
    have hop := open_of nm nx es ms a0 b0 ec bc w1 HF.out.ns HF.out.el HF.out.ml HF.out.eb HF.out.mb (HE.out.inn hb1) (HB.out.inn hb1)
    clear hok
    go_wp2_with (go_at_call 22; fail)
    refine hop.mono ?_
    rintro e w2 ⟨hb, g, h, rfl, hsg, om, hh, hhb⟩
    have hb2 := hsg.bel
    have hB2 : Below W.heap.size W w2 := hb1.trans (hb2.mono hb1.size)
    have HSG : Hid (SG w1 hb ⟨nm, nx, some ⟨h, 0, none⟩, ms.length, ms.length⟩ g es.length es w2) := hsg
    have hhB : w1.heap.size ≤ hb := hsg.hbB
    have hgB : w1.heap.size ≤ g := hsg.gB
    have hbl2 : hb < w2.heap.size := (Array.getElem?_eq_some_iff.1 hsg.box).1
    have hgl2 : g < w2.heap.size := by obtain ⟨cur, h1, _⟩ := hsg.row; exact (Array.getElem?_eq_some_iff.1 h1).1
    have htk := impl_take hb _ nm nx ms h ms.length o t a w2 HF.out.ml hsg.box om.row
    clear hop x0 x1 x2 x3 z0 z1 z2 z3 f0 f1 f2 f3 hsg om
    go_wp2_with (go_at_call 23; fail)
    refine htk.mono ?_
    rintro e w3 ⟨v, u, wr, rfl, hk, hw3⟩
    have HAH2 : Hid (AH = left o t a ms) := HAH.out
    have HAC2 : Hid (AC = ((gone o t a ms).length : Int)) := HAC.out
    obtain ⟨GL, hGL⟩ : ∃ GL, gone o t a ms = GL := ⟨_, rfl⟩
    have HUP : Hid (Up (backs es GL)) := by show Up (backs es GL); rw [← hGL]; exact ok_up HOK.out o t a
    have HAR2 : Hid (AR = backs es (gone o t a ms)) := HAR.out
    rw [hGL] at HAR2
    have hgle : GL.length ≤ ms.length := by rw [← hGL]; exact gone_le o t a ms
    obtain ⟨LL, hLL⟩ : ∃ LL, left o t a ms = LL := ⟨_, rfl⟩
    rw [hLL] at hk HAH2
    rw [hGL] at hk HAC2
    obtain rfl : AH = LL := HAH2.out
    obtain rfl : AC = (GL.length : Int) := HAC2.out
    obtain ⟨vb, vc, rfl⟩ := hk.av.form
    obtain ⟨ub, uc, rfl⟩ := hk.au.form
    have hsg3 : SG w1 hb ⟨nm, nx, ub, AH.length, uc⟩ g es.length es w3 := by rw [hw3]; exact sg_held HSG.out hk.bel
    have hau : All w3 w2.heap.size (.slice ub AH.length uc) AH := by rw [hw3]; exact qds.all_set hk.au hbl2
    have HR0 : Hid (RI w1 hb ⟨nm, nx, ub, AH.length, uc⟩ g es w2.heap.size vb ub vc uc GL AH 0 es w3) := ⟨SN.of hsg3, sorted_heap HOK.out.ru, by simp, fun _ => ⟨hsg3, rfl⟩, by rw [hw3]; exact qds.all_set hk.av hbl2, hau, hbl2, by rw [hw3]; simpa using hk.lo⟩
    clear htk hk hw3 hGL hLL HAH HAC HAR HAH2 HAC2 hau hsg3
    have hpb := put_back w1 hb ⟨nm, nx, ub, AH.length, uc⟩ g es w2.heap.size vb ub vc uc GL AH w3 HR0 (by omega)
    go_wp2_with (go_at_call 24; fail)
    refine hpb.mono ?_
    rintro e wr ⟨rfl, M, hR⟩
    have hk : GL.length ≤ GL.length := Nat.le_refl _
    have HML : Hid (M.length = es.length + GL.length) := hR.out.len hk
    clear hpb HR0
    obtain ⟨g5, cap5, hsg5⟩ := hR.out.open hk
    have hcl := closed_run w1 ⟨nm, nx, ub, AH.length, uc⟩ hb g5 cap5 M wr hsg5 (by have := HML.out; omega) hR.out.hp
    have hb13 := hsg5.bel
    have hrow : ∃ cur, wr.heap[g5]? = some (.cells cur 41 (0, 0)) := by obtain ⟨cur, h1, _⟩ := hsg5.row; exact ⟨cur, h1⟩
    have HROW : Hid (∃ cur, wr.heap[g5]? = some (.cells cur 41 (0, 0))) := hrow
    have hg5B := hsg5.gB
    have HPM : Hid (M.Perm (backs es GL)) := by
      have h1 := hR.out.pm
      rw [List.take_length] at h1
      exact h1.trans (backs_perm es GL).symm
    have HAU : Hid (All wr w2.heap.size (.slice ub AH.length uc) AH) := hR.out.au
    have hS := hR.out.hS
    clear hR hsg5 hrow
    go_wp2_with (go_at_call 25; fail)
    refine hcl.mono ?_
    rintro e w6 ⟨R, gr, cr, rfl, hRp, hRs, hRo, hkq⟩
    have hRe : R = backs es GL := sort_uniq (hRp.trans HPM.out) hRs (of_up HUP.out)
    obtain rfl : AR = R := by rw [hRe]; exact HAR2.out
    have hb16 : Below w1.heap.size w1 w6 := ⟨hkq.os.trans hb13.os, hkq.tape.trans hb13.tape, hkq.output.trans hb13.output, Nat.le_trans hb13.size hkq.size, fun q hq => (hkq.block q (Nat.lt_of_lt_of_le hq hb13.size) (by omega) (by omega)).trans (hb13.block q hq)⟩
    have hgr : wr.heap.size ≤ gr ∧ gr < w6.heap.size := hRo.lt gr rfl
    have hs1 := hb1.size
    have hs12 := hb2.size
    obtain ⟨h6, hh1, hh2, hho, hh3⟩ := all_ho2 (b := w.heap.size) HAU.out hgr.1 (by omega) hkq HROW.out hbl2
    have hs36 := hkq.size
    have hB6 : Below W.heap.size W w6 := hb1.trans (hb16.mono hs1)
    have HFN : Hid (OwnO flM.c 5 41 w6 gr 0 AR AR.length ∧ HO w6 h6 ub AH ∧ Below w.heap.size w w6) := ⟨owns_ownO flM.c_len hRo, hho, hWb.trans (hB6.mono hWb.size)⟩
    obtain ⟨_, ⟨z0, z1, z2, z3⟩, f0, f1, f2, f3⟩ := BX.out w6 hB6
    clear hcl hRp hRs hRo hkq hho hb16 hb13 hB6 HAU HSG HOK hob hRe HPM HUP HAR2 HML
    go_wp2
    refine bodyPost_ret (v := .tuple #[.agg #[.string nm, .int .i64 nx, .slice (some ⟨gr, 0, none⟩) AR.length cr, .slice ub AH.length uc], .int .i64 GL.length]) (by simp [results, Try.results6, go_sem, z0, z1, z2, z3]) rfl ⟨gr, _, h6, _, _, rfl, by omega, by omega, hh2, by simp only [World.size_setCell]; omega, ?_, ?_, ?_⟩
    · exact ((((HFN.out.1).kept (Below.heap_setCell _ _ _ _ (by show gr ≠ w.heap.size + 1; omega))).kept (Below.heap_setCell _ _ _ _ (by show gr ≠ w.heap.size + 1; omega))).kept (Below.heap_setCell _ _ _ _ (by show gr ≠ w.heap.size + 1; omega))).kept (Below.heap_setCell _ _ _ _ (by show gr ≠ w.heap.size + 1; omega))
    · exact ((((HFN.out.2.1).kept (fun _ => Below.heap_setCell _ _ _ _ (by show h6 ≠ w.heap.size + 1; omega))).kept (fun _ => Below.heap_setCell _ _ _ _ (by show h6 ≠ w.heap.size + 1; omega))).kept (fun _ => Below.heap_setCell _ _ _ _ (by show h6 ≠ w.heap.size + 1; omega))).kept (fun _ => Below.heap_setCell _ _ _ _ (by show h6 ≠ w.heap.size + 1; omega))
    · exact (((HFN.out.2.2.setCell (by show w.heap.size ≤ w.heap.size + 1; omega) _).setCell (by show w.heap.size ≤ w.heap.size + 1; omega) _).setCell (by show w.heap.size ≤ w.heap.size + 1; omega) _).setCell (by show w.heap.size ≤ w.heap.size + 1; omega) _
end Go.Proofs.Ytnlcmheahihlpaa.qri

/- Two messages held beside each other as a whole: what == and != of the struct answer. -/
namespace Go.Proofs.Ytnlcmheahihlpaa.meq
open Go.ChangeShapes Go.WideShapes Go.ChangeAt Go.RowKit Go.Proofs.Ytnlcmheahihlpaa.fl
set_option linter.unusedVariables false

theorem fields : ∃ f0 f1 f2 f3 f4 : Field, Try.prog.fieldsOf 41 = #[f0, f1, f2, f3, f4] ∧ (f0.name ≠ "_" ∧ f0.type = 3 ∧ f0.offset = 0) ∧ (f1.name ≠ "_" ∧ f1.type = 9 ∧ f1.offset = 1) ∧ (f2.name ≠ "_" ∧ f2.type = 9 ∧ f2.offset = 2) ∧ (f3.name ≠ "_" ∧ f3.type = 9 ∧ f3.offset = 3) ∧ (f4.name ≠ "_" ∧ f4.type = 4 ∧ f4.offset = 4) := by
  refine ⟨_, _, _, _, _, (by kernel_rfl : Try.prog.fieldsOf 41 = #[(Try.prog.fieldsOf 41).getD 0 default, (Try.prog.fieldsOf 41).getD 1 default, (Try.prog.fieldsOf 41).getD 2 default, (Try.prog.fieldsOf 41).getD 3 default, (Try.prog.fieldsOf 41).getD 4 default]), ⟨by decide +kernel, by kernel_rfl, by kernel_rfl⟩, ⟨by decide +kernel, by kernel_rfl, by kernel_rfl⟩, ⟨by decide +kernel, by kernel_rfl, by kernel_rfl⟩, ⟨by decide +kernel, by kernel_rfl, by kernel_rfl⟩, ⟨by decide +kernel, by kernel_rfl, by kernel_rfl⟩⟩
theorem und : Try.prog.underlying 41 = some (.struct (Try.prog.fieldsOf 41)) := by kernel_rfl
theorem held : Try.prog.stoodInHeld 41 = false := by kernel_rfl
theorem guard : Try.prog.eqGuardType Try.prog.depth 41 = false := by kernel_rfl
theorem tl {x y : ByteArray} : x.toList = y.toList ↔ x = y := by
  constructor
  · intro h
    rw [Lib.toList_data, Lib.toList_data] at h
    exact ByteArray.ext (Array.toList_inj.1 h)
  · rintro rfl; rfl
/-- whether two messages are one -/
def same (p q : flM.Ms) : Bool := decide (p.q = q.q) && (decide (p.x = q.x) && (decide (p.k = q.k) && (decide (p.b = q.b) && (p.a == q.a))))
theorem same_iff {p q : flM.Ms} : same p q = true ↔ p = q := by
  obtain ⟨p1, p2, p3, p4, p5⟩ := p
  obtain ⟨q1, q2, q3, q4, q5⟩ := q
  simp [same]
theorem same_no {p q : flM.Ms} : same p q = false ↔ p ≠ q := by
  rw [← Bool.not_eq_true, same_iff]
theorem eq_at (n : Nat) (p q : flM.Ms) (w : World) : (Op.equalIn (n + 2) 41 (.agg #[.int .i64 p.q, .string p.x, .string p.k, .string p.b, .bool p.a]) (.agg #[.int .i64 q.q, .string q.x, .string q.k, .string q.b, .bool q.a])).run Try.prog w = .ok (same p q) w := by
  obtain ⟨f0, f1, f2, f3, f4, hf, ⟨a0, b0, c0⟩, ⟨a1, b1, c1⟩, ⟨a2, b2, c2⟩, ⟨a3, b3, c3⟩, ⟨a4, b4, c4⟩⟩ := fields
  rw [show n + 2 = (n + 1) + 1 from rfl, run_equalIn_agg w (n + 1) _ _ _ und held, hf]
  obtain ⟨p1, p2, p3, p4, p5⟩ := p
  obtain ⟨q1, q2, q3, q4, q5⟩ := q
  simp [Op.eqFields, a0, a1, a2, a3, a4, b0, b1, b2, b3, b4, c0, c1, c2, c3, c4, go_sem, part, Try.underlying3, Try.underlying9, Try.underlying4]
  simp only [tl]
  unfold same
  by_cases h1 : p1 = q1
  · by_cases h2 : p2 = q2
    · by_cases h3 : p3 = q3
      · by_cases h4 : p4 = q4
        · cases p5 <;> cases q5 <;> simp [h1, h2, h3, h4]
        · simp [h1, h2, h3, h4]
      · simp [h1, h2, h3]
    · simp [h1, h2]
  · simp [h1]
theorem eq_in (p q : flM.Ms) (w : World) : (Op.equalIn 10000 41 (.agg #[.int .i64 p.q, .string p.x, .string p.k, .string p.b, .bool p.a]) (.agg #[.int .i64 q.q, .string q.x, .string q.k, .string q.b, .bool q.a])).run Try.prog w = .ok (same p q) w := eq_at 9998 p q w
theorem neq_run (p q : flM.Ms) (w : World) : (binOp .neq 41 (.agg #[.int .i64 p.q, .string p.x, .string p.k, .string p.b, .bool p.a]) (.agg #[.int .i64 q.q, .string q.x, .string q.k, .string q.b, .bool q.a])).run Try.prog w = .ok (.bool (!same p q)) w := by
  rw [run_neq_struct, eq_in p q w]
  rfl
theorem guard_run (x y : Operand) (xs ys : Array Value) (w : World) : (eqGuard .neq 41 x y (.agg xs) (.agg ys)).run Try.prog w = .ok () w := run_eqGuard_agg w .neq _ x y xs ys guard
end Go.Proofs.Ytnlcmheahihlpaa.meq
