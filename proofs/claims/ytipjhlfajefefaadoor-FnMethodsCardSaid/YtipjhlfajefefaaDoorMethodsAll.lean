/- FnMethods: a method comes back from its bytes, and no other bytes are its; for every input, where the library's tables hold what its own text lays in them (the card ties them). -/
import Derived.Test.YtipjhlfajefefaaDoorDrawMethods
import Derived.Test.YtipjhlfajefefaaDoorRoundAll
import Derived.Test.YtipjhlfajefefaaDoorTextAll
import Derived.Test.YtipjhlfajefefaaDoorGotAll
import Derived.BigQuiet
import Derived.Test.YtipjhlfajefefaaDoorCards
import Derived.Test.YtipjhlfajefefaaDoorTie
import Derived.Test.YtipjhlfajefefaaDoorDrawMethod
import Derived.WalkKit
import Derived.ProofKit
import Derived.OpenShut
import Derived.ShutString
import Derived.Below
import Derived.OpenVars
import Derived.Deep.DeepHandedRow
import Derived.Lib.LaidTab
import Derived.Stop.LaidErr

/- What the law of methods asks, as facts, and its calls in whatever world that came of a first one. -/
namespace Go.Proofs.YtipjhlfajefefaaDoor.mtl
set_option linter.unusedVariables false
open Go.ChangeShapes Go.WideShapes Go.ChangeAt Go.RowKit Go.Proofs.YtipjhlfajefefaaDoor.mp Go.Proofs.YtipjhlfajefefaaDoor.wm Go.Proofs.YtipjhlfajefefaaDoor.mi Go.Proofs.YtipjhlfajefefaaDoor.dms

theorem big_no (a : Option Addr) (len cap : Nat) (w : World) (h : len ≤ 1048576) : Calls Tryd.prog 12 #[.slice a len cap] w fun e w' => e = .returned (.bool false) ∧ w = w' := by
  have hd : decide ((1048576 : Int) < (len : Int)) = false := by simp; omega
  go_enter Tryd.func12, Tryd.ntmps12
  go_wp2
  go_ret
  exact ⟨by simp, rfl⟩

theorem out_yes {c i : Int} {ts : List ByteArray} {ns : List Int} (h : ok c i ts ns = true) : 4 ≤ (outB c i ts ns).size := by
  have hk : (fo.known c i).isSome = true := by unfold ok at h; simp at h; exact h.1
  obtain ⟨⟨h1, h2⟩, h3, h4⟩ := mo.known_small hk
  have f1 := np.text_size (mo.fits2 (n := c) h1 (by omega))
  have f2 := np.text_size (mo.fits2 (n := i) h3 h4)
  unfold outB
  rw [if_pos h, ByteArray.size_append, ByteArray.size_append]
  omega
theorem out_no {c i : Int} {ts : List ByteArray} {ns : List Int} (h : ok c i ts ns = false) : outB c i ts ns = ⟨#[]⟩ := by
  unfold outB
  rw [h]
  rfl
theorem next_said {s : ByteArray} (h1 : 1 ≤ s.size) (h2 : s.size ≤ 2000) : nf.val (sy.said 7 s) = .tuple #[.agg #[.int .i64 1, .int .i64 7, .string s], .int .i64 ((s.size : Int) + 8), .int .i64 0] := by
  have hok : fr.ok 1 7 s = true := fr.ok_true.2 ⟨by decide, by omega, by omega, by omega⟩
  obtain ⟨n1, n2, n3, n4, n5, n6⟩ := fp.next_put hok ⟨#[]⟩
  rw [fp.app_nil] at n1 n2 n3 n4 n5
  unfold sy.said
  rw [if_neg (by omega)]
  unfold nf.val
  rw [if_pos n1, n2, n3, n4, n5]
theorem said_size {n : Int} {s : ByteArray} (h2 : s.size ≤ 2000) : (sy.said n s).size ≤ 5000 := by
  unfold sy.said
  split
  · simp
  · have := pf.bytes_size 1 n s
    omega

theorem fits_wf {n z : Int} (h : pi.fits n z = true) : (Lit.int .i64 n).wf = true := by
  have hm := dm.most_wf z
  unfold pi.fits at h
  simp only [Bool.and_eq_true, decide_eq_true_eq] at h
  have h9 := bounds_i64 hm
  exact WalkArith.wf_i64 (by omega)
theorem ok_small : ∀ (f : List UInt8) (ts : List ByteArray) (ns : List Int), okL f ts ns = true → (∀ t ∈ ts, t.size ≤ 255) ∧ (∀ n ∈ ns, (Lit.int .i64 n).wf = true) ∧ ts.length ≤ f.length ∧ ns.length ≤ f.length
  | [], ts, ns, h => by
    have : ts = [] ∧ ns = [] := by simpa [okL] using h
    obtain ⟨rfl, rfl⟩ := this
    simp
  | c :: f, ts, ns, h => by
    by_cases hc : c = 115
    · subst hc
      obtain ⟨x, r, rfl, hx, hr⟩ := pm.okL_s h
      obtain ⟨h1, h2, h3, h4⟩ := ok_small f r ns hr
      refine ⟨fun t ht => ?_, h2, by simp; omega, by simp; omega⟩
      rcases List.mem_cons.1 ht with rfl | ht
      · exact hx
      · exact h1 t ht
    · obtain ⟨x, r, rfl, hx, hr⟩ := pm.okL_n hc h
      obtain ⟨h1, h2, h3, h4⟩ := ok_small f ts r hr
      refine ⟨h1, fun t ht => ?_, by simp; omega, by simp; omega⟩
      rcases List.mem_cons.1 ht with rfl | ht
      · exact fits_wf hx
      · exact h2 t ht

/-- what GetMethod answers, as a method that lies in memory -/
def Got (s : ByteArray) (w : World) (e : Ending) (w' : World) : Prop :=
  ∃ c i ts ns ta na tc nc, e = .returned (.tuple #[.agg #[.int .i64 c, .int .i64 i, .slice ta ts.length tc, .slice na ns.length nc], .bool (gm.ok s)]) ∧ M w' c i ts ns ta na tc nc ∧ (gm.ok s = true → outB c i ts ns = s ∧ c = gm.cls s ∧ i = gm.idn s ∧ ts = (gm.run s).2.1 ∧ ns = (gm.run s).2.2) ∧ Below w.heap.size w w'
theorem got_of {s : ByteArray} {w w' : World} {e : Ending} (h : gm.Post s w e w') : Got s w e w' := by
  unfold gm.Post at h
  cases hk : gm.ok s with
  | true =>
    rw [hk, if_pos rfl] at h
    obtain ⟨ta, na, tc, nc, he, h1, h2, h3, h4⟩ := h
    obtain ⟨p1, p2⟩ := mo.put_get hk
    have hl : okL (F (gm.cls s) (gm.idn s)) (gm.run s).2.1 (gm.run s).2.2 = true := by unfold ok at p1; simp at p1; exact p1.2
    obtain ⟨s1, s2, s3, s4⟩ := ok_small _ _ _ hl
    have h5 := F_length (gm.cls s) (gm.idn s)
    have o1 := sl_of_owns h1
    have o2 := sl_of_owns h2
    refine ⟨_, _, _, _, ta, na, tc, nc, by rw [hk]; exact he, ⟨gm.num_wf _ _ _, gm.num_wf _ _ _, by omega, fun x hx => by have := s1 x hx; omega, by omega, s2, o1.1, o2.1, o1.2, o2.2⟩, fun _ => ⟨p2, rfl, rfl, rfl, rfl⟩, h4⟩
  | false =>
    rw [hk] at h
    obtain ⟨he, h4⟩ := h
    refine ⟨0, 0, [], [], none, none, 0, 0, by rw [hk]; exact he, ⟨by decide, by decide, by simp, by simp, by simp, by simp, .inl rfl, .inl rfl, by simp, by simp⟩, fun h => (by rw [hk] at h; cases h), h4⟩

section
variable {w : World} {c i : Int} {ts : List ByteArray} {ns : List Int} {ta na : Option Addr} {tc nc : Nat}
theorem cSP (h : M w c i ts ns ta na tc nc) (N : qi.Cls w) : Calls Tryd.prog 21 #[.agg #[.int .i64 c, .int .i64 i, .slice ta ts.length tc, .slice na ns.length nc]] N.x fun e w' => e = .returned (.string (outB c i ts ns)) ∧ qi.T w w' :=
  (mlp.spec_put' (h.on N.h)).mono fun e w' ⟨h1, h2⟩ => ⟨h1, N.h.next h2⟩
theorem cIO (h : M w c i ts ns ta na tc nc) (ht : Tab w) (N : qi.Cls w) : Calls Tryd.prog 22 #[.agg #[.int .i64 c, .int .i64 i, .slice ta ts.length tc, .slice na ns.length nc]] N.x fun e w' => e = .returned (.bool (ok c i ts ns)) ∧ qi.T w w' :=
  (impl_ok c i ts ns ta na tc nc N.x (h.on N.h) (tab_on ht N.h)).mono fun e w' ⟨h1, h2⟩ => ⟨h1, N.h.next h2⟩
theorem cSO (h : M w c i ts ns ta na tc nc) (N : qi.Cls w) : Calls Tryd.prog 23 #[.agg #[.int .i64 c, .int .i64 i, .slice ta ts.length tc, .slice na ns.length nc]] N.x fun e w' => e = .returned (.bool (ok c i ts ns)) ∧ qi.T w w' := by
  have h0 := h.on N.h
  exact (ms.spec_ok c i ts ns ta na tc nc N.x h0.tl h0.tx h0.nl h0.nw h0.st h0.sn).mono fun e w' ⟨h1, h2⟩ => ⟨h1, N.h.next h2⟩
theorem cIT (h : M w c i ts ns ta na tc nc) (ht : Tab w) (N : qi.Cls w) : Calls Tryd.prog 24 #[.agg #[.int .i64 c, .int .i64 i, .slice ta ts.length tc, .slice na ns.length nc]] N.x fun e w' => e = .returned (.string (mx.outT c i ts ns)) ∧ qi.T w w' :=
  (mt.impl_text c i ts ns ta na tc nc N.x (h.on N.h) (tab_on ht N.h)).mono fun e w' ⟨h1, h2⟩ => ⟨h1, N.h.next h2⟩
theorem cST (h : M w c i ts ns ta na tc nc) (N : qi.Cls w) : Calls Tryd.prog 25 #[.agg #[.int .i64 c, .int .i64 i, .slice ta ts.length tc, .slice na ns.length nc]] N.x fun e w' => e = .returned (.string (mx.outT c i ts ns)) ∧ qi.T w w' := by
  have h0 := h.on N.h
  exact (mx.spec_text c i ts ns ta na tc nc N.x h0.wc h0.wi h0.tl h0.tx h0.nl h0.nw h0.st h0.sn).mono fun e w' ⟨h1, h2⟩ => ⟨h1, N.h.next h2⟩
theorem cIS (n : Int) (hn : n ≤ 9223372036854775807) (h : M w c i ts ns ta na tc nc) (ht : Tab w) (N : qi.Cls w) : Calls Tryd.prog 26 #[.int .i64 n, .agg #[.int .i64 c, .int .i64 i, .slice ta ts.length tc, .slice na ns.length nc]] N.x fun e w' => e = .returned (.string (sy.said n (outB c i ts ns))) ∧ qi.T w w' :=
  (sy.impl_say n c i ts ns ta na tc nc N.x hn (h.on N.h) (tab_on ht N.h)).mono fun e w' ⟨h1, h2⟩ => ⟨h1, N.h.next h2⟩
theorem cSS (n : Int) (hn : n ≤ 9223372036854775807) (h : M w c i ts ns ta na tc nc) (N : qi.Cls w) : Calls Tryd.prog 27 #[.int .i64 n, .agg #[.int .i64 c, .int .i64 i, .slice ta ts.length tc, .slice na ns.length nc]] N.x fun e w' => e = .returned (.string (sy.said n (outB c i ts ns))) ∧ qi.T w w' :=
  (sy.spec_say n c i ts ns ta na tc nc N.x hn (h.on N.h)).mono fun e w' ⟨h1, h2⟩ => ⟨h1, N.h.next h2⟩
end
end Go.Proofs.YtipjhlfajefefaaDoor.mtl

/- The law of methods, walked. -/
namespace Go.Proofs.YtipjhlfajefefaaDoor.mwk
set_option linter.unusedVariables false
open Go.ChangeShapes Go.WideShapes Go.ChangeAt Go.RowKit Go.Proofs.YtipjhlfajefefaaDoor.me Go.Proofs.YtipjhlfajefefaaDoor.mp Go.Proofs.YtipjhlfajefefaaDoor.wm Go.Proofs.YtipjhlfajefefaaDoor.mi Go.Proofs.YtipjhlfajefefaaDoor.dms Go.Proofs.YtipjhlfajefefaaDoor.mtl

theorem keep {w w' : World} {b : Nat} {o : Obj} (hb : Below w.heap.size w w') (h : w.heap[b]? = some o) : w'.heap[b]? = some o := by rw [hb.block _ (Array.getElem?_eq_some_iff.1 h).1]; exact h
theorem al (w : World) (o : Obj) : Below w.heap.size w (w.alloc o) := (Below.refl _ _).alloc (Nat.le_refl _) _
theorem Code.top {w w' : World} {a : Option Addr} {len : Nat} (h : dw.Code w w.heap.size a len) (hb : Below w.heap.size w w') : dw.Code w' w'.heap.size a len := (h.below hb (Nat.le_refl _)).mono hb.size
theorem cells4 {w : World} {b : Nat} {x y z u : Value} {T : TypeId} (h : w.heap[b]? = some (.cells #[x, y, z, u] T (0, 0))) : w.cell? ⟨b, 0, none⟩ = some x ∧ w.cell? ⟨b, 1, none⟩ = some y ∧ w.cell? ⟨b, 2, none⟩ = some z ∧ w.cell? ⟨b, 3, none⟩ = some u :=
  ⟨cell_of (o := 0) h rfl, cell_of (o := 1) h rfl, cell_of (o := 2) h rfl, cell_of (o := 3) h rfl⟩

set_option maxRecDepth 100000 in
set_option maxHeartbeats 20000000 in
theorem walk (hdm : DM) (a0 : Option Addr) (len0 cap0 : Nat) (w : World) (hcode : dw.Code w w.heap.size a0 len0) (htab : Tab w) :
    Calls Tryd.prog 3 #[.slice a0 len0 cap0] w fun e w' => e = .returned (.bool true) ∧ Below w.heap.size w w' := by
  by_cases hbig : 1048576 < len0
  · have hd : decide ((1048576 : Int) < (len0 : Int)) = true := by simp; omega
    clear hcode htab
    go_enter Tryd.func3, Tryd.ntmps3
    go_wp2_with (go_at_call 12; go_in)
    go_ret
    exact ⟨rfl, Below.refl _ _⟩
  have hlen : len0 ≤ 1048576 := by omega
  have HC : Hid (dw.Code w w.heap.size a0 len0) := hcode
  have HTAB : Hid (Tab w) := htab
  have HDM : Hid DM := hdm
  clear hcode htab hdm
  have hd1 := draw_PutMethod HDM.out a0 len0 cap0 w hlen HC.out
  go_enter Tryd.func3, Tryd.ntmps3
  have t1 : True := trivial
  go_wp2_with (first | (go_at_call 12; refine (big_no a0 len0 cap0 w hlen).mono ?_; rintro e w0 ⟨rfl, hw0⟩; rw [← hw0]; clear hw0 w0) | (go_at_call 13; have _t := t1; refine hd1.mono ?_; rintro e w1 ⟨⟨c, i, ts, ns, ta, na, tc, nc, rfl, hl1⟩, hb1⟩; have HL1 : Hid (Lies w1 c i ts ns ta na tc nc) := hl1; clear hl1 t1) | (go_at_call 14; fail))
  have HM1 : Hid (M (w1.alloc (.cells #[.int .i64 c, .int .i64 i, .slice ta ts.length tc, .slice na ns.length nc] 27)) c i ts ns ta na tc nc) := HL1.out.1.on (al w1 _)
  have hTm : Below w.heap.size w (w1.alloc (.cells #[.int .i64 c, .int .i64 i, .slice ta ts.length tc, .slice na ns.length nc] 27)) := hb1.alloc hb1.size _
  have bm := heap_alloc_new w1 (.cells #[.int .i64 c, .int .i64 i, .slice ta ts.length tc, .slice na ns.length nc] 27)
  have hput := impl_put c i ts ns ta na tc nc _ HM1.out (tab_on HTAB.out hTm)
  have hosz := outB_size c i ts ns
  obtain ⟨S, hS⟩ : ∃ S, outB c i ts ns = S := ⟨_, rfl⟩
  have HS : Hid (outB c i ts ns = S) := hS
  rw [hS] at hput hosz
  have hl1 : w1.heap.size < (w1.alloc (.cells #[.int .i64 c, .int .i64 i, .slice ta ts.length tc, .slice na ns.length nc] 27)).heap.size := by simp
  obtain ⟨Wm, hWm⟩ : ∃ Wm, w1.alloc (.cells #[.int .i64 c, .int .i64 i, .slice ta ts.length tc, .slice na ns.length nc] 27) = Wm := ⟨_, rfl⟩
  rw [hWm] at HM1 hTm bm hput hl1 ⊢
  clear hWm hS hd1
  refine hput.mono ?_
  rintro e w2 ⟨rfl, hb2⟩
  have hT2 : Below w.heap.size w w2 := hTm.trans (hb2.mono hTm.size)
  have b2 := keep hb2 bm
  have hd2 := draw_GetMethod HDM.out a0 len0 cap0 w2 hlen (Code.top HC.out hT2)
  clear hput
  go_wp2_with (first | (go_at_call 15; refine hd2.mono ?_; rintro e w3 ⟨⟨u, hu, rfl⟩, hb3⟩) | (go_at_call 16; fail))
  have hg4 := gm.impl_get u w3 (by omega)
  refine hg4.mono ?_
  intro e w4 hp4
  obtain ⟨xc, xi, xts, xns, xta, xna, xtc, xnc, rfl, hx4, hxo, hb4⟩ := got_of hp4
  obtain ⟨go, hgo⟩ : ∃ go, gm.ok u = go := ⟨_, rfl⟩
  have hg5 := gm.spec_get u (w4.alloc (.cells #[.int .i64 xc, .int .i64 xi, .slice xta xts.length xtc, .slice xna xns.length xnc] 27)) (by omega)
  rw [hgo] at hxo ⊢
  clear hp4 hg4 hd2
  go_wp2_with (go_at_call 17; fail)
  refine hg5.mono ?_
  intro e w5 hp5
  obtain ⟨yc, yi, yts, yns, yta, yna, ytc, ync, rfl, hy5, hyo, hb5⟩ := got_of hp5
  rw [hgo]
  clear hp5 hg5 hyo
  have hT4 : Below w.heap.size w (w4.alloc (.cells #[.int .i64 xc, .int .i64 xi, .slice xta xts.length xtc, .slice xna xns.length xnc] 27)) := ((hT2.trans (hb3.mono hT2.size)).trans (hb4.mono (Nat.le_trans hT2.size hb3.size))).alloc (Nat.le_trans hT2.size (Nat.le_trans hb3.size hb4.size)) _
  have hT5 : Below w.heap.size w (w5.alloc (.cells #[.int .i64 yc, .int .i64 yi, .slice yta yts.length ytc, .slice yna yns.length ync] 27)) := (hT4.trans (hb5.mono hT4.size)).alloc (Nat.le_trans hT4.size hb5.size) _
  have b5 := keep (al w5 (.cells #[.int .i64 yc, .int .i64 yi, .slice yta yts.length ytc, .slice yna yns.length ync] 27)) (keep hb5 (keep (al w4 (.cells #[.int .i64 xc, .int .i64 xi, .slice xta xts.length xtc, .slice xna xns.length xnc] 27)) (keep hb4 (keep hb3 b2))))
  have bx5 := keep (al w5 (.cells #[.int .i64 yc, .int .i64 yi, .slice yta yts.length ytc, .slice yna yns.length ync] 27)) (keep hb5 (heap_alloc_new w4 (.cells #[.int .i64 xc, .int .i64 xi, .slice xta xts.length xtc, .slice xna xns.length xnc] 27)))
  have HX5 : Hid (M (w5.alloc (.cells #[.int .i64 yc, .int .i64 yi, .slice yta yts.length ytc, .slice yna yns.length ync] 27)) xc xi xts xns xta xna xtc xnc) := ((hx4.on (al w4 _)).on hb5).on (al w5 _)
  have HM5 : Hid (M (w5.alloc (.cells #[.int .i64 yc, .int .i64 yi, .slice yta yts.length ytc, .slice yna yns.length ync] 27)) c i ts ns ta na tc nc) := (((((HM1.out.on hb2).on hb3).on hb4).on (al w4 (.cells #[.int .i64 xc, .int .i64 xi, .slice xta xts.length xtc, .slice xna xns.length xnc] 27))).on hb5).on (al w5 _)
  have HXO : Hid (go = true → outB xc xi xts xns = u) := fun h => (hxo h).1
  have HGO : Hid (gm.ok u = go) := hgo
  obtain ⟨W5, hW5⟩ : ∃ W5, w5.alloc (.cells #[.int .i64 yc, .int .i64 yi, .slice yta yts.length ytc, .slice yna yns.length ync] 27) = W5 := ⟨_, rfl⟩
  obtain ⟨m0, m1, m2, m3⟩ := cells4 b5
  have hf1 := fo.impl_form c i (w5.alloc (.cells #[.int .i64 yc, .int .i64 yi, .slice yta yts.length ytc, .slice yna yns.length ync] 27)) HM1.out.wc HM1.out.wi
  have hf2 := fun W => fo.spec_form c i W
  obtain ⟨fl, hfl⟩ : ∃ fl, fo.letters c i = fl := ⟨_, rfl⟩
  obtain ⟨kn, hkn⟩ : ∃ kn, (fo.known c i).isSome = kn := ⟨_, rfl⟩
  rw [hfl, hkn] at hf1
  simp only [hfl, hkn] at hf2
  clear hfl hkn hy5 hx4 hxo hgo hb2 hb3 hb4 hb5 b2 bm hT4 hT2 hTm hb1 HL1
  rw [hW5] at hT5 b5 bx5 HX5 HM5 m0 m1 m2 m3 hf1
  go_wp2_with (go_at_call 18; fail)
  clear hW5
  refine hf1.mono ?_
  rintro e w6 ⟨rfl, hb6⟩
  have hT6 : Below w.heap.size w w6 := hT5.trans (hb6.mono hT5.size)
  have b6 := keep hb6 b5
  obtain ⟨n0, n1, n2, n3⟩ := cells4 b6
  have hd3 := draw_Say HDM.out a0 len0 cap0 w6 hlen (Code.top HC.out hT6)
  clear hf1 m0 m1 m2 m3
  go_wp2_with (first | (go_at_call 19; refine (hf2 _).mono ?_; rintro e w0 ⟨rfl, hw0⟩; rw [hw0]; clear hw0 w0) | (go_at_call 20; fail))
  refine hd3.mono ?_
  rintro e w7 ⟨⟨no, zc, zi, zts, zns, zta, zna, ztc, znc, rfl, hno, hz7⟩, hb7⟩
  have hT8 : Below w.heap.size w (w7.alloc (.cells #[.int .i64 zc, .int .i64 zi, .slice zta zts.length ztc, .slice zna zns.length znc] 27)) := (hT6.trans (hb7.mono hT6.size)).alloc (Nat.le_trans hT6.size hb7.size) _
  have b8 := keep (al w7 (.cells #[.int .i64 zc, .int .i64 zi, .slice zta zts.length ztc, .slice zna zns.length znc] 27)) (keep hb7 b6)
  have bx8 := keep (al w7 (.cells #[.int .i64 zc, .int .i64 zi, .slice zta zts.length ztc, .slice zna zns.length znc] 27)) (keep hb7 (keep hb6 bx5))
  have bz8 := heap_alloc_new w7 (.cells #[.int .i64 zc, .int .i64 zi, .slice zta zts.length ztc, .slice zna zns.length znc] 27)
  have HZ8 : Hid (M (w7.alloc (.cells #[.int .i64 zc, .int .i64 zi, .slice zta zts.length ztc, .slice zna zns.length znc] 27)) zc zi zts zns zta zna ztc znc) := hz7.1.on (al w7 _)
  have HM8 : Hid (M (w7.alloc (.cells #[.int .i64 zc, .int .i64 zi, .slice zta zts.length ztc, .slice zna zns.length znc] 27)) c i ts ns ta na tc nc) := ((HM5.out.on hb6).on hb7).on (al w7 _)
  have HX8 : Hid (M (w7.alloc (.cells #[.int .i64 zc, .int .i64 zi, .slice zta zts.length ztc, .slice zna zns.length znc] 27)) xc xi xts xns xta xna xtc xnc) := ((HX5.out.on hb6).on hb7).on (al w7 _)
  obtain ⟨W8, hW8⟩ : ∃ W8, w7.alloc (.cells #[.int .i64 zc, .int .i64 zi, .slice zta zts.length ztc, .slice zna zns.length znc] 27) = W8 := ⟨_, rfl⟩
  clear hd3 n0 n1 n2 n3 hf2 b6 b5 bx5 hz7
  rw [hW8] at hT8 b8 bx8 bz8 HZ8 HM8 HX8
  go_wp2
  clear hW8 hb7 hb6 hT5 hT6 HM5 HX5
  have HT8 : Hid (Tab W8) := tab_on HTAB.out hT8
  have k1 := fun N : qi.Cls W8 => cSP HM8.out N
  have k2 := fun N : qi.Cls W8 => cIO HM8.out HT8.out N
  have k3 := fun N : qi.Cls W8 => cSO HM8.out N
  have k4 := fun N : qi.Cls W8 => cIT HM8.out HT8.out N
  have k5 := fun N : qi.Cls W8 => cST HM8.out N
  have k6 := fun N : qi.Cls W8 => cIS no (by omega) HZ8.out HT8.out N
  have k7 := fun N : qi.Cls W8 => cSS no (by omega) HZ8.out N
  simp only [HS.out] at k1
  obtain ⟨ov, hov⟩ : ∃ ov, ok c i ts ns = ov := ⟨_, rfl⟩
  simp only [hov] at k2 k3
  have HOV : Hid (ok c i ts ns = ov) := hov
  obtain ⟨tv, htv⟩ : ∃ tv, mx.outT c i ts ns = tv := ⟨_, rfl⟩
  simp only [htv] at k4 k5
  obtain ⟨sv, hsv⟩ : ∃ sv, sy.said no (outB zc zi zts zns) = sv := ⟨_, rfl⟩
  simp only [hsv] at k6 k7
  clear hov htv hsv
  have q0 := fun N : qi.Cls W8 => (cells4 (keep N.h b8)).1
  have q1 := fun N : qi.Cls W8 => (cells4 (keep N.h b8)).2.1
  have q2 := fun N : qi.Cls W8 => (cells4 (keep N.h b8)).2.2.1
  have q3 := fun N : qi.Cls W8 => (cells4 (keep N.h b8)).2.2.2
  have p0 := fun N : qi.Cls W8 => (cells4 (keep N.h bz8)).1
  have p1 := fun N : qi.Cls W8 => (cells4 (keep N.h bz8)).2.1
  have p2 := fun N : qi.Cls W8 => (cells4 (keep N.h bz8)).2.2.1
  have p3 := fun N : qi.Cls W8 => (cells4 (keep N.h bz8)).2.2.2
  have HB8 : Hid (W8.heap[w1.heap.size]? = some (.cells #[.int .i64 c, .int .i64 i, .slice ta ts.length tc, .slice na ns.length nc] 27)) := b8
  have HBX : Hid (W8.heap[w4.heap.size]? = some (.cells #[.int .i64 xc, .int .i64 xi, .slice xta xts.length xtc, .slice xna xns.length xnc] 27)) := bx8
  have HTW : Hid (Below w.heap.size w W8) := hT8
  clear b8 bx8 bz8 hT8
  refine qi.region_in W8 (qi.T.refl W8) (by kernel_rfl) (by kernel_rfl) ?_
  repeat (go_big_quiet_step (first | (go_at_call 21; refine (k1 _).mono ?_; rintro e wx ⟨rfl, hTx⟩; exact ⟨rfl, ⟨wx, hTx⟩, rfl⟩) | (go_at_call 22; refine (k2 _).mono ?_; rintro e wx ⟨rfl, hTx⟩; exact ⟨rfl, ⟨wx, hTx⟩, rfl⟩) | (go_at_call 23; refine (k3 _).mono ?_; rintro e wx ⟨rfl, hTx⟩; exact ⟨rfl, ⟨wx, hTx⟩, rfl⟩) | (go_at_call 24; refine (k4 _).mono ?_; rintro e wx ⟨rfl, hTx⟩; exact ⟨rfl, ⟨wx, hTx⟩, rfl⟩) | (go_at_call 25; refine (k5 _).mono ?_; rintro e wx ⟨rfl, hTx⟩; exact ⟨rfl, ⟨wx, hTx⟩, rfl⟩) | (go_at_call 26; refine (k6 _).mono ?_; rintro e wx ⟨rfl, hTx⟩; exact ⟨rfl, ⟨wx, hTx⟩, rfl⟩) | (go_at_call 27; refine (k7 _).mono ?_; rintro e wx ⟨rfl, hTx⟩; exact ⟨rfl, ⟨wx, hTx⟩, rfl⟩)))
  refine wpQuiet_nil ?_
  rintro _ ⟨N, rfl⟩
  have hN := N.h
  generalize N.x = wN at hN ⊢
  clear N
  clear k1 k2 k3 k4 k5 k6 k7 q0 q1 q2 q3 p0 p1 p2 p3
  have k3 := fun N : qi.Cls W8 => cSO HM8.out N
  simp only [HOV.out] at k3
  obtain ⟨r0, r1, r2, r3⟩ := cells4 (keep hN HBX.out)
  cases ov with
  | false =>
    have hS0 : S = ⟨#[]⟩ := HS.out.symm.trans (out_no HOV.out)
    subst hS0
    cases go with
    | false =>
      obtain ⟨s0, s1, s2, s3⟩ := cells4 (keep hN HB8.out)
      go_wp2_with (first | (go_at_call 23; refine (k3 ⟨wN, hN⟩).mono ?_; rintro e v2 ⟨rfl, hv2⟩) | (go_at_call 16; fail))
      clear s0 s1 s2 s3
      all_goals go_ret
      all_goals exact ⟨rfl, HTW.out.trans (Below.mono hv2 HTW.out.size)⟩
    | true =>
      have hpx := impl_put xc xi xts xns xta xna xtc xnc wN (HX8.out.on hN) (tab_on HT8.out hN)
      rw [HXO.out rfl] at hpx
      go_wp2_with (first | (go_at_call 14; refine hpx.mono ?_; rintro e v1 ⟨rfl, hv1⟩; obtain ⟨s0, s1, s2, s3⟩ := cells4 (keep hv1 (keep hN HB8.out)); have hT1 : qi.T W8 v1 := qi.T.next hN hv1) | (go_at_call 23; refine (k3 ⟨v1, hT1⟩).mono ?_; rintro e v2 ⟨rfl, hv2⟩) | (go_at_call 16; fail))
      clear hpx s0 s1 s2 s3 hT1
      all_goals go_ret
      all_goals exact ⟨rfl, HTW.out.trans (Below.mono hv2 HTW.out.size)⟩
  | true =>
    have hSz := out_yes HOV.out
    rw [HS.out] at hSz
    obtain ⟨hl1', hl2'⟩ := nf.not_empty (s := S) (by omega)
    have hgp := mo.get_put HOV.out
    have hgm := mo.get_more HOV.out ⟨#[120]⟩ (by decide)
    rw [HS.out] at hgp hgm
    have HGP : Hid (gm.ok S = true ∧ gm.cls S = c ∧ gm.idn S = i ∧ gm.run S = ((S.size : Int), ts, ns)) := hgp
    have HGM : Hid (gm.ok (S ++ ⟨#[120]⟩) = false) := hgm
    clear hgp hgm
    cases go with
    | false =>
      obtain ⟨s0, s1, s2, s3⟩ := cells4 (keep hN HB8.out)
      go_wp2_with (first | (go_at_call 23; refine (k3 ⟨wN, hN⟩).mono ?_; rintro e v2 ⟨rfl, hv2⟩) | (go_at_call 16; fail))
      clear s0 s1 s2 s3
      have hg3 := gm.impl_get S v2 (by omega)
      refine hg3.mono ?_
      intro e v3 hp3
      obtain ⟨bc, bi, bts, bns, bta, bna, btc, bnc, rfl, hbm, hbo, hv3⟩ := got_of hp3
      obtain ⟨g1, g2, g3, g4⟩ := HGP.out
      rw [g1] at hbo ⊢
      rw [g2, g3, g4] at hbo
      obtain ⟨-, e1, e2, e3, e4⟩ := hbo rfl
      have e1' : c = bc := e1.symm
      have e2' : i = bi := e2.symm
      have e3' : ts = bts := e3.symm
      have e4' : ns = bns := e4.symm
      subst e1' e2' e3' e4'
      have hg5 := gm.impl_get (S ++ ⟨#[120]⟩) (v3.alloc (.cells #[.int .i64 c, .int .i64 i, .slice bta ts.length btc, .slice bna ns.length bnc] 27)) (by rw [ByteArray.size_append]; show S.size + 1 ≤ 1048576; omega)
      clear hp3 hg3 hbo e1 e2 e3 e4 g1 g2 g3 g4
      go_wp2_with (go_at_call 16; fail)
      refine hg5.mono ?_
      intro e v5 hp5
      obtain ⟨dc, di, dts, dns, dta, dna, dtc, dnc, rfl, hdm5, -, hv5⟩ := got_of hp5
      rw [HGM.out]
      clear hp5 hg5
      have hTb : qi.T W8 (v3.alloc (.cells #[.int .i64 c, .int .i64 i, .slice bta ts.length btc, .slice bna ns.length bnc] 27)) := (qi.T.next hv2 hv3).next (al v3 _)
      have hTd : qi.T W8 (v5.alloc (.cells #[.int .i64 dc, .int .i64 di, .slice dta dts.length dtc, .slice dna dns.length dnc] 27)) := (hTb.next hv5).next (al v5 _)
      have hB5 := keep (al v5 (.cells #[.int .i64 dc, .int .i64 di, .slice dta dts.length dtc, .slice dna dns.length dnc] 27)) (keep hv5 (heap_alloc_new v3 (.cells #[.int .i64 c, .int .i64 i, .slice bta ts.length btc, .slice bna ns.length bnc] 27)))
      have HBM : Hid (M (v5.alloc (.cells #[.int .i64 dc, .int .i64 di, .slice dta dts.length dtc, .slice dna dns.length dnc] 27)) c i ts ns bta bna btc bnc) := ((hbm.on (al v3 _)).on hv5).on (al v5 _)
      obtain ⟨V6, hV6⟩ : ∃ V6, v5.alloc (.cells #[.int .i64 dc, .int .i64 di, .slice dta dts.length dtc, .slice dna dns.length dnc] 27) = V6 := ⟨_, rfl⟩
      rw [hV6] at hTd hB5 HBM
      obtain ⟨s0, s1, s2, s3⟩ := cells4 (keep hTd HB8.out)
      have hsay := sy.impl_say 7 c i ts ns ta na tc nc V6 (by omega) (HM8.out.on hTd) (tab_on HT8.out hTd)
      rw [HS.out] at hsay
      clear hbm hdm5 hTb hv3 hv5
      go_wp2_with (go_at_call 26; fail)
      clear hV6
      refine hsay.mono ?_
      rintro e v7 ⟨rfl, hv7⟩
      have hnext := nf.impl_next (sy.said 7 S) v7 (by have := said_size (n := 7) (s := S) (by omega); omega)
      rw [next_said (by omega) (by omega)] at hnext
      clear hsay s0 s1 s2 s3
      go_wp2_with (go_at_call 28; fail)
      refine hnext.mono ?_
      rintro e v8 ⟨rfl, hv8⟩
      have F9 := heap_alloc_new v8 (.cells #[.int .i64 1, .int .i64 7, .string S] 40)
      have hB9 := keep (al v8 (.cells #[.int .i64 1, .int .i64 7, .string S] 40)) (keep hv8 (keep hv7 hB5))
      have hM9 := keep (al v8 (.cells #[.int .i64 1, .int .i64 7, .string S] 40)) (keep hv8 (keep hv7 (keep hTd HB8.out)))
      have hT9 : qi.T W8 (v8.alloc (.cells #[.int .i64 1, .int .i64 7, .string S] 40)) := ((hTd.next hv7).next hv8).next (al v8 _)
      have mb9 := ((HBM.out.on hv7).on hv8).on (al v8 (.cells #[.int .i64 1, .int .i64 7, .string S] 40))
      have mm9 := HM8.out.on hT9
      obtain ⟨V9, hV9⟩ : ∃ V9, v8.alloc (.cells #[.int .i64 1, .int .i64 7, .string S] 40) = V9 := ⟨_, rfl⟩
      rw [hV9] at F9 hB9 hM9 hT9 mb9 mm9
      have hsame := sa.same_method c i ts ns bta bna ta na btc bnc tc nc V9 (by have := mm9.tl; omega) (by have := mm9.nl; omega) mb9.st mb9.sn mm9.st mm9.sn
      obtain ⟨a0', a1', a2', a3'⟩ := cells4 hB9
      obtain ⟨d0', d1', d2', d3'⟩ := cells4 hM9
      have HF9 : Hid (V9.heap[v8.heap.size]? = some (.cells #[.int .i64 1, .int .i64 7, .string S] 40)) := F9
      have HT9 : Hid (qi.T W8 V9) := hT9
      clear hnext F9 hB9 hM9 hT9 mb9 mm9 hB5 hTd hv7 hv8
      go_wp2_with (go_at_call 29; refine hsame.mono ?_; rintro e x9 ⟨rfl, hx9⟩; have f0' := cell_of (o := 0) (keep hx9 HF9.out) rfl; have f1' := cell_of (o := 1) (keep hx9 HF9.out) rfl; have f2' := cell_of (o := 2) (keep hx9 HF9.out) rfl)
      go_ret
      have hfin : qi.T W8 x9 := HT9.out.next hx9
      exact ⟨rfl, HTW.out.trans (Below.mono hfin HTW.out.size)⟩
    | true =>
      have hpx := impl_put xc xi xts xns xta xna xtc xnc wN (HX8.out.on hN) (tab_on HT8.out hN)
      rw [HXO.out rfl] at hpx
      go_wp2_with (first | (go_at_call 14; refine hpx.mono ?_; rintro e v1 ⟨rfl, hv1⟩; obtain ⟨s0, s1, s2, s3⟩ := cells4 (keep hv1 (keep hN HB8.out)); have hT1 : qi.T W8 v1 := qi.T.next hN hv1) | (go_at_call 23; refine (k3 ⟨v1, hT1⟩).mono ?_; rintro e v2 ⟨rfl, hv2⟩) | (go_at_call 16; fail))
      clear hpx s0 s1 s2 s3 hT1
      have hg3 := gm.impl_get S v2 (by omega)
      refine hg3.mono ?_
      intro e v3 hp3
      obtain ⟨bc, bi, bts, bns, bta, bna, btc, bnc, rfl, hbm, hbo, hv3⟩ := got_of hp3
      obtain ⟨g1, g2, g3, g4⟩ := HGP.out
      rw [g1] at hbo ⊢
      rw [g2, g3, g4] at hbo
      obtain ⟨-, e1, e2, e3, e4⟩ := hbo rfl
      have e1' : c = bc := e1.symm
      have e2' : i = bi := e2.symm
      have e3' : ts = bts := e3.symm
      have e4' : ns = bns := e4.symm
      subst e1' e2' e3' e4'
      have hg5 := gm.impl_get (S ++ ⟨#[120]⟩) (v3.alloc (.cells #[.int .i64 c, .int .i64 i, .slice bta ts.length btc, .slice bna ns.length bnc] 27)) (by rw [ByteArray.size_append]; show S.size + 1 ≤ 1048576; omega)
      clear hp3 hg3 hbo e1 e2 e3 e4 g1 g2 g3 g4
      go_wp2_with (go_at_call 16; fail)
      refine hg5.mono ?_
      intro e v5 hp5
      obtain ⟨dc, di, dts, dns, dta, dna, dtc, dnc, rfl, hdm5, -, hv5⟩ := got_of hp5
      rw [HGM.out]
      clear hp5 hg5
      have hTb : qi.T W8 (v3.alloc (.cells #[.int .i64 c, .int .i64 i, .slice bta ts.length btc, .slice bna ns.length bnc] 27)) := (qi.T.next hv2 hv3).next (al v3 _)
      have hTd : qi.T W8 (v5.alloc (.cells #[.int .i64 dc, .int .i64 di, .slice dta dts.length dtc, .slice dna dns.length dnc] 27)) := (hTb.next hv5).next (al v5 _)
      have hB5 := keep (al v5 (.cells #[.int .i64 dc, .int .i64 di, .slice dta dts.length dtc, .slice dna dns.length dnc] 27)) (keep hv5 (heap_alloc_new v3 (.cells #[.int .i64 c, .int .i64 i, .slice bta ts.length btc, .slice bna ns.length bnc] 27)))
      have HBM : Hid (M (v5.alloc (.cells #[.int .i64 dc, .int .i64 di, .slice dta dts.length dtc, .slice dna dns.length dnc] 27)) c i ts ns bta bna btc bnc) := ((hbm.on (al v3 _)).on hv5).on (al v5 _)
      obtain ⟨V6, hV6⟩ : ∃ V6, v5.alloc (.cells #[.int .i64 dc, .int .i64 di, .slice dta dts.length dtc, .slice dna dns.length dnc] 27) = V6 := ⟨_, rfl⟩
      rw [hV6] at hTd hB5 HBM
      obtain ⟨s0, s1, s2, s3⟩ := cells4 (keep hTd HB8.out)
      have hsay := sy.impl_say 7 c i ts ns ta na tc nc V6 (by omega) (HM8.out.on hTd) (tab_on HT8.out hTd)
      rw [HS.out] at hsay
      clear hbm hdm5 hTb hv3 hv5
      go_wp2_with (go_at_call 26; fail)
      clear hV6
      refine hsay.mono ?_
      rintro e v7 ⟨rfl, hv7⟩
      have hnext := nf.impl_next (sy.said 7 S) v7 (by have := said_size (n := 7) (s := S) (by omega); omega)
      rw [next_said (by omega) (by omega)] at hnext
      clear hsay s0 s1 s2 s3
      go_wp2_with (go_at_call 28; fail)
      refine hnext.mono ?_
      rintro e v8 ⟨rfl, hv8⟩
      have F9 := heap_alloc_new v8 (.cells #[.int .i64 1, .int .i64 7, .string S] 40)
      have hB9 := keep (al v8 (.cells #[.int .i64 1, .int .i64 7, .string S] 40)) (keep hv8 (keep hv7 hB5))
      have hM9 := keep (al v8 (.cells #[.int .i64 1, .int .i64 7, .string S] 40)) (keep hv8 (keep hv7 (keep hTd HB8.out)))
      have hT9 : qi.T W8 (v8.alloc (.cells #[.int .i64 1, .int .i64 7, .string S] 40)) := ((hTd.next hv7).next hv8).next (al v8 _)
      have mb9 := ((HBM.out.on hv7).on hv8).on (al v8 (.cells #[.int .i64 1, .int .i64 7, .string S] 40))
      have mm9 := HM8.out.on hT9
      obtain ⟨V9, hV9⟩ : ∃ V9, v8.alloc (.cells #[.int .i64 1, .int .i64 7, .string S] 40) = V9 := ⟨_, rfl⟩
      rw [hV9] at F9 hB9 hM9 hT9 mb9 mm9
      have hsame := sa.same_method c i ts ns bta bna ta na btc bnc tc nc V9 (by have := mm9.tl; omega) (by have := mm9.nl; omega) mb9.st mb9.sn mm9.st mm9.sn
      obtain ⟨a0', a1', a2', a3'⟩ := cells4 hB9
      obtain ⟨d0', d1', d2', d3'⟩ := cells4 hM9
      have HF9 : Hid (V9.heap[v8.heap.size]? = some (.cells #[.int .i64 1, .int .i64 7, .string S] 40)) := F9
      have HT9 : Hid (qi.T W8 V9) := hT9
      clear hnext F9 hB9 hM9 hT9 mb9 mm9 hB5 hTd hv7 hv8
      go_wp2_with (go_at_call 29; refine hsame.mono ?_; rintro e x9 ⟨rfl, hx9⟩; have f0' := cell_of (o := 0) (keep hx9 HF9.out) rfl; have f1' := cell_of (o := 1) (keep hx9 HF9.out) rfl; have f2' := cell_of (o := 2) (keep hx9 HF9.out) rfl)
      go_ret
      have hfin : qi.T W8 x9 := HT9.out.next hx9
      exact ⟨rfl, HTW.out.trans (Below.mono hfin HTW.out.size)⟩
end Go.Proofs.YtipjhlfajefefaaDoor.mwk

/- FnMethods: a method comes back from its bytes, and no other bytes are its; for every input, where the library's tables hold what its own text lays in them (the card ties them). -/
namespace Go.Proofs.YtipjhlfajefefaaDoor.fnMethods
open Go.ChangeShapes Go.WideShapes Go.ChangeAt Go.RowKit
open Go.ChangeMaps (open_string shut_string)
set_option linter.unusedVariables false

theorem own : ownKnob Tryd.prog.godebug = none := by kernel_rfl
theorem laidOut : laidOutB Tryd.prog = true := by kernel_rfl

def IsRow (k : IntKind) (w : World) (a : Option Addr) (len cap : Nat) (zs : List Int) : Prop :=
  (a = none ∧ len = 0 ∧ cap = 0 ∧ zs = []) ∨
  ∃ x, a = some x ∧ len ≤ cap ∧ cap ≤ maxLen ∧ zs.length = cap ∧ (∀ i, i < zs.length → w.cell? (x.add i) = some (.int k (zs.getD i 0))) ∧ ∀ n ∈ zs, (Lit.int k n).wf = true

def nums32 : List Int := [0, 1, 28, 2, 29, 14, 24, 3, 30, 22, 20, 15, 25, 17, 4, 8, 31, 27, 13, 23, 21, 19, 16, 7, 26, 12, 18, 6, 11, 5, 10, 9]
def nums64 : List Int := [0, 1, 56, 2, 57, 49, 28, 3, 61, 58, 42, 50, 38, 29, 17, 4, 62, 47, 59, 36, 45, 43, 51, 22, 53, 39, 33, 30, 24, 18, 12, 5, 63, 55, 48, 27, 60, 41, 37, 16, 46, 35, 44, 21, 52, 32, 23, 11, 54, 26, 40, 15, 34, 20, 31, 10, 25, 14, 19, 9, 13, 8, 7, 6]
def pows : List Int := [1, 10, 100, 1000, 10000, 100000, 1000000, 10000000, 100000000, 1000000000, 10000000000, 100000000000, 1000000000000, 10000000000000, 100000000000000, 1000000000000000, 10000000000000000, 100000000000000000, 1000000000000000000, 10000000000000000000]
theorem pows_eq : pows = Lib.pow10Tab := by decide +kernel
theorem gPow : Tryd.prog.globalNamed "internal/strconv.uint64pow10" = some 3 := by kernel_rfl
theorem gPowType : (Tryd.prog.globals[3]?).map (·.type) = some 229 := by kernel_rfl
theorem cellsPow : Tryd.prog.cellsOf 229 = 20 := by kernel_rfl
theorem cellsElem : Tryd.prog.cellsOf 199 = 1 := by kernel_rfl
theorem table {W : World} (h : laidMetH Tryd.prog Rows.fnMethodsRow.laid W) : Lib.TabIs Tryd.prog W "internal/strconv.uint64pow10" .u64 Lib.pow10Tab := by
  rw [← pows_eq]
  have h0 : laidMet Tryd.prog Rows.fnMethodsRow.laid W := h
  exact Lib.tabIs_of_head (rest := []) gPow gPowType Tryd.underlying229 Tryd.underlying199 cellsElem cellsPow h0.tail.tail
def put (vs : Array Value) : Obj → Obj
  | .cells _ t frozen => .cells vs t frozen
  | o => o
def laidIn (W : World) : World := { W with heap := ((W.heap.modify 3 (put (pows.map (Value.int .u64)).toArray)).modify 4 (put (nums32.map (Value.int .u8)).toArray)).modify 5 (put (nums64.map (Value.int .u8)).toArray) }
theorem codeOf {w : World} {a : Option Addr} {len cap : Nat} {zs : List Int} (h : IsRow .u8 w a len cap zs) : dw.Code w w.heap.size a len := by
  rcases h with ⟨_, h0, _, _⟩ | ⟨x, rfl, hl, _, hz, hcell, hwf⟩
  · exact .inl h0
  · by_cases hlen : len = 0
    · exact .inl hlen
    obtain ⟨b, off, spot⟩ := x
    have h0 := hcell 0 (by omega)
    have hspot : spot = none := by simpa [Addr.add] using World.cell?_spot h0
    subst hspot
    refine .inr ⟨b, off, rfl, block_lt_of_cell h0, fun i hi => ?_⟩
    have hc := hcell i (by omega)
    have hmem : zs.getD i 0 ∈ zs := by
      have : i < zs.length := by omega
      simp [List.getD, List.getElem?_eq_getElem this]
    have hb := bounds_u8 (hwf _ hmem)
    refine ⟨(zs.getD i 0).toNat, by omega, ?_⟩
    rw [show (((zs.getD i 0).toNat : Nat) : Int) = zs.getD i 0 by omega]
    have e : (⟨b, off, none⟩ : Addr).add i = ⟨b, off + i, none⟩ := by unfold Addr.add; split <;> simp_all
    rw [← e]
    exact hc

theorem walk (a0 : Option Addr) (len0 cap0 : Nat) (z0 : List Int) (w : World) (w0 : IsRow .u8 w a0 len0 cap0 z0) (htab : Lib.TabIs Tryd.prog w "internal/strconv.uint64pow10" .u64 Lib.pow10Tab) :
    Calls Tryd.prog 3 #[.slice a0 len0 cap0] w fun e w' => e = .returned (.bool true) ∧ Below w.heap.size w w' := by
  exact mwk.walk (fun p a len cap W h => dm.draw_method p a len cap W h) a0 len0 cap0 w (codeOf w0) htab

set_option maxRecDepth 100000 in
theorem contract (H : Type) (enc : TypeId × Value → H) (W : World) (base : Nat) (args : Array Value) (ds gs : List (DataW H)) (before : List MemPlace)
    (hval : ∀ (j : Nat) t v, Tryd.f3.params[j]? = some t → args[j]? = some v → Value.okWide Tryd.prog W .any base t v)
    (hW : DataW.Whole enc Tryd.prog Tryd.f3.params.toList Rows.fnMethodsSpec.vars false W args.toList ds gs before) (hL : laidMetH Tryd.prog Rows.fnMethodsRow.laid W) (hsh : W.ShapedOpen Tryd.prog) :
    Calls Tryd.prog 3 args W fun e W' => ∃ v, e = .returned v ∧ Rows.fnMethodsSpec.post enc Tryd.prog Tryd.f3 false true false false W args v W' := by
  have hW' := hW
  obtain ⟨p, q, hA0, hV, hb, hfz, hnd⟩ := hW
  have hA : DataW.TrodAll enc Tryd.prog W 0 (fun _ => true) true Tryd.f3.params.toList args.toList ds p := hA0
  rw [Tryd.params3] at hA hval
  obtain ⟨v0, vs0, d0, ds0, p0, q0, hargs, rfl, rfl, h0, r0⟩ := trodAll_cons hA
  obtain ⟨rfl, rfl, rfl⟩ := trodAll_nil r0
  obtain rfl : args = #[v0] := by cases args; simp_all
  obtain ⟨rfl, rfl⟩ := trodVars_none hV
  obtain ⟨a0, len0, cap0, rfl⟩ := okWide_slice Tryd.underlying22 (hval 0 22 v0 rfl rfl)
  have k0 := h0
  have lt0 : ∀ x ∈ p0, x.block < W.heap.size := by obtain ⟨m, hm⟩ := k0; exact DataW.trod_lt m _ _ _ hm
  obtain ⟨z0, w0⟩ : ∃ zs, IsRow .u8 W a0 len0 cap0 zs := by
    obtain ⟨fuel, hf⟩ := h0
    rcases open_ints Tryd.underlying22 Tryd.underlying5 (by kernel_rfl) hf with ⟨hcs, _⟩ | ⟨x, l, c, zs, hcs, _, hl, hm, hz, _, hcell, hwz⟩
    · simp [Value.cells] at hcs
      obtain ⟨rfl, rfl, rfl⟩ := hcs
      exact ⟨[], .inl ⟨rfl, rfl, rfl, rfl⟩⟩
    · simp [Value.cells] at hcs
      obtain ⟨rfl, rfl, rfl⟩ := hcs
      exact ⟨zs, .inr ⟨_, rfl, hl, hm, by simpa using hz, hcell, hwz⟩⟩
  clear hA0
  refine (walk a0 len0 cap0 z0 W w0 (table hL)).mono fun e W' ⟨he, hg⟩ => ?_
  subst he
  exact ⟨_, rfl, _, _, _, [], _, [], hW', trodAll_cons_mk (shut_bool Tryd.underlying4 _) trodAll_mk0, trodAll_cons_mk (Below.trod laidOut (by kernel_rfl) (of_decide_eq_true (by kernel_rfl)) k0 hg lt0) trodAll_mk0, rfl, hg.frame _, fun h => by cases h⟩

theorem laid_met (os : Os) : laidMet Tryd.prog Rows.fnMethodsRow.laid ((laidIn (World.holding Tryd.prog os ⟨#[], #[], []⟩)).forCall (fun _ _ => 0) ⟨#[], #[.slice none 0 0], []⟩).memory :=
  laidMet_of_run' 8 (by kernel_rfl) (by kernel_rfl)
theorem reads (os : Os) {H : Type} (enc : TypeId × Value → H) : ∃ gs places, DataW.whole enc Tryd.prog ((laidIn (World.holding Tryd.prog os ⟨#[], #[], []⟩)).forCall (fun _ _ => 0) ⟨#[], #[.slice none 0 0], []⟩).memory Tryd.f3.params.toList Rows.fnMethodsSpec.vars false (#[.slice none 0 0] : Array Value).toList 8 = some ([.nil], gs, places) :=
  ⟨[], [], by kernel_rfl⟩

set_option maxRecDepth 100000 in
theorem lifted (os : Os) (started : os.Started) (H : Type) (enc : TypeId × Value → H) (F : Stop.Interp) :
    ReturnsInHanded {} Tryd.checked os 3 .any ((OpenSpec.ofChange Rows.fnMethodsSpec).preRow enc Tryd.prog Tryd.f3 Rows.fnMethodsRow.domain false Rows.fnMethodsRow.laid) (((OpenSpec.ofChange Rows.fnMethodsSpec).at F).post enc Tryd.prog Tryd.f3 false true false false) := by
  obtain ⟨gs, places, hx⟩ := reads os enc
  refine returnsInHanded_of_row (C := Tryd.checked) (s := OpenSpec.ofChange Rows.fnMethodsSpec) own started (by kernel_rfl) Tryd.func3
    (witness_row_at (enc := enc) (C := Tryd.checked) false (laidIn (World.holding Tryd.prog os ⟨#[], #[], []⟩)) #[.slice none 0 0] rfl (by kernel_rfl) (by kernel_rfl) (by kernel_rfl)
      (OpenSpec.preRow_of_cond 8 hx (by kernel_rfl) (fun k hk => by cases hk) (by kernel_rfl) (laid_met os))) ?_
  intro W base args ds gs before hval hW _ _ _ hL hsh _
  exact contract H enc W base args ds gs before hval hW hL hsh

theorem said : Rows.FnMethodsSaid :=
  OpenClaim.holds_of_cond 3 Tryd.f3 rfl rfl rfl rfl rfl rfl rfl ⟨rfl, rfl, rfl, rfl, rfl⟩ rfl rfl rfl rfl rfl (by kernel_rfl) Tryd.func3 (by kernel_rfl)
    (of_decide_eq_true (by kernel_rfl)) (by unfold Func.isWrapper; first | (rw [if_pos (by decide +kernel)]; kernel_rfl) | (rw [if_neg (by decide +kernel)]; exact ⟨rfl, rfl⟩))
    (fun os started H enc _ F => by rw [OpenClaim.pre_eq_preRow]; exact lifted os started H enc F)

theorem plain (f : FuncId) (fn : Func) (hf : Tryd.pinned.checked.prog.funcNamed "loop.example/g00227/laws.FnMethods" = some f) (hfn : Tryd.pinned.checked.prog.funcs[f]? = some fn) :
    true = Tryd.pinned.checked.prog.looks [] ∧ ∀ (j : Nat) t, fn.params[j]? = some t → Tryd.pinned.checked.prog.wantsStandIn t = false := by
  obtain rfl : f = 3 := Option.some.inj ((show Tryd.prog.funcNamed "loop.example/g00227/laws.FnMethods" = some 3 by kernel_rfl).symm.trans hf) |>.symm
  obtain rfl : fn = Tryd.f3 := (Option.some.inj (Tryd.func3.symm.trans hfn)).symm
  refine ⟨by kernel_rfl, fun j t ht => ?_⟩
  rw [Tryd.params3] at ht
  obtain rfl : t = 22 := by simpa using Array.mem_of_getElem? ht
  exact (show Tryd.prog.wantsStandIn 22 = false by kernel_rfl)

theorem card : Rows.FnMethodsCardSaid :=
  Claim7.holds_tied_plain_at .later [] _ _ _ _ said (fun _ h => by cases h) (by kernel_rfl) (fun _ h => by cases h) fnMethods_row_tie rfl ⟨rfl, rfl⟩ (by kernel_rfl) rfl plain (by kernel_rfl)
#print axioms card
end Go.Proofs.YtipjhlfajefefaaDoor.fnMethods
