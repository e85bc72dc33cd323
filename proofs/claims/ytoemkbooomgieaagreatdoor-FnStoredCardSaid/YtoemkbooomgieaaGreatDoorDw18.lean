/- StoreOk: the specification and the program tell the same of a store. -/
import Derived.Test.YtoemkbooomgieaaGreatDoorDw17
import Derived.Test.YtoemkbooomgieaaGreatDoorDw15
import Derived.Shelf.SlGeneric
import Derived.Shelf.SlIter.Nil
import Derived.Shelf.SortM.Plain
import Derived.Shelf.SortM.SortNone
import Derived.Ground.GgzProg
import Derived.Ground.SlgmProg
import Derived.Test.YtoemkbooomgieaaGreatDoorRows
import Derived.Test.YtoemkbooomgieaaGreatDoorDw16
import Derived.StringKeys
import Derived.Test.YtoemkbooomgieaaGreatDoorDw12
import Derived.Test.YtoemkbooomgieaaGreatDoorDw13

/- The program's GetBatch: the loop, and the answer. -/
namespace Go.Proofs.YtoemkbooomgieaaGreatDoor.gim
open Go.ChangeShapes Go.WideShapes Go.ChangeAt Go.RowKit Go.Proofs.YtoemkbooomgieaaGreatDoor.fl Go.Proofs.YtoemkbooomgieaaGreatDoor.fo Go.Proofs.YtoemkbooomgieaaGreatDoor.gbp Go.Proofs.YtoemkbooomgieaaGreatDoor.brd Go.Proofs.YtoemkbooomgieaaGreatDoor.asf
set_option linter.unusedVariables false
theorem row_at {W W1 : World} {B b m n : Nat} {T : TypeId} {v : Value} {xs : List Value} (h : W.ownsRow B T m v n xs) (hB : b < B) (ht : Tn W W1 (fun a => a = b)) : W1.ownsRow B T m v n xs := by
  refine h.kept (row := some b) ⟨ht.os, ht.tape, ht.output, ht.size, fun a ha hne => ht.block a ha (fun hc => hne (by rw [hc]))⟩ ?_
  cases hv : v.ownBlock with
  | none => exact .inl rfl
  | some g =>
    refine .inr (fun hc => ?_)
    have := (h.lt g hv).1
    injection hc with hc
    omega
theorem sb_done {w W : World} {v : Value} {m n : Nat} {T : TypeId} {xs : List Value} (h : Sb w v W) (hr : W.ownsRow (w.heap.size + 1 + 1 + 1) T m v n xs) :
    ((W.setCell ⟨w.heap.size, 0, none⟩ v).setCell ⟨w.heap.size + 1, 0, none⟩ (.bool true)).cell? ⟨w.heap.size, 0, none⟩ = some v ∧
    ((W.setCell ⟨w.heap.size, 0, none⟩ v).setCell ⟨w.heap.size + 1, 0, none⟩ (.bool true)).cell? ⟨w.heap.size + 1, 0, none⟩ = some (.bool true) ∧
    Below w.heap.size w ((W.setCell ⟨w.heap.size, 0, none⟩ v).setCell ⟨w.heap.size + 1, 0, none⟩ (.bool true)) ∧
    ((W.setCell ⟨w.heap.size, 0, none⟩ v).setCell ⟨w.heap.size + 1, 0, none⟩ (.bool true)).ownsRow w.heap.size T m v n xs := by
  have b2 := bset h.b 0 v
  have o2 : (W.setCell ⟨w.heap.size, 0, none⟩ v).heap[w.heap.size + 1]? = some (.cells #[.bool false] 4 (0, 0)) := by
    rw [Below.heap_setCell _ _ _ _ (by simp)]
    exact h.o
  have o3 := bset o2 0 (.bool true)
  have b3 : ((W.setCell ⟨w.heap.size, 0, none⟩ v).setCell ⟨w.heap.size + 1, 0, none⟩ (.bool true)).heap[w.heap.size]? = some (.cells #[v] 28 (0, 0)) := by
    rw [Below.heap_setCell _ _ _ _ (by simp)]
    exact b2
  refine ⟨bcell b3 rfl, bcell o3 rfl, (h.bel.setCell (Nat.le_refl _) _).setCell (Nat.le_succ _) _, ?_⟩
  have t1 : Tn W (W.setCell ⟨w.heap.size, 0, none⟩ v) (fun a => a = w.heap.size) := Tn.set (Tn.refl W (fun a => a = w.heap.size)) (S := fun a => a = w.heap.size) rfl 0 v
  have t2 : Tn (W.setCell ⟨w.heap.size, 0, none⟩ v) ((W.setCell ⟨w.heap.size, 0, none⟩ v).setCell ⟨w.heap.size + 1, 0, none⟩ (.bool true)) (fun a => a = w.heap.size + 1) := Tn.set (Tn.refl _ (fun a => a = w.heap.size + 1)) (S := fun a => a = w.heap.size + 1) rfl 0 _
  have r2 := row_at (b := w.heap.size + 1) (row_at (b := w.heap.size) hr (by omega) t1) (by omega) t2
  refine ⟨r2.1, ?_⟩
  rcases r2.2 with h0 | ⟨g, c, cur, e1, e2, e3⟩
  · exact .inl h0
  · exact .inr ⟨g, c, cur, e1, by omega, e3⟩
theorem got_stop {s : ByteArray} {n k : Nat} {i : Int} {l : List flP.Pr} (hN : (gi.num s 0 1).toNat = n) (hL : gbp.Left s n l (n - k) i) (hk : k < n) (hbad : ¬ ∃ p j, stp s i = some (p, j) ∧ bo.okP p) : got s = none := by
  rw [show n - k = (n - k - 1) + 1 by omega] at hL
  cases hst : stp s i with
  | none => exact gbs.got_bad2 (by rw [hN]; exact left_no hL hst)
  | some x =>
    obtain ⟨p, j⟩ := x
    have hno : ¬ bo.okP p := fun h => hbad ⟨p, j, hst, h⟩
    have h1 := left_yes hL hst
    unfold gbp.Left at h1
    cases hh : rn s (n - k - 1) j with
    | none =>
      rw [hh] at h1
      exact gbs.got_bad2 (by rw [hN]; exact h1)
    | some y =>
      obtain ⟨m, e⟩ := y
      rw [hh] at h1
      refine gbs.got_bad3 (by rw [hN]; exact h1) ?_
      have hf : bo.okb (l ++ [p] ++ m) = false := by
        cases h : bo.okb (l ++ [p] ++ m) with
        | false => rfl
        | true => exact absurd (((bo.okb_iff _).1 h).2 l.length p (by simp)) hno
      rw [hf]
      simp
set_option maxRecDepth 100000 in
set_option maxHeartbeats 1000000 in
theorem impl_run (s : ByteArray) (w : World) (hs : s.size ≤ 1048576) (hg : ET w) (ha : gi.okAt s 0 1 = true) (n : Nat) (hn : gi.num s 0 1 = n) (hn60 : n ≤ 60) :
    Calls Tryz.prog 51 #[.string s] w fun e w' => ∃ v, e = .returned (.tuple #[v, .bool (gotB s)]) ∧ w'.ownsRow w.heap.size 61 3 v (gotL s).length ((gotL s).flatMap flP.c) ∧ Below w.heap.size w w' := by
  have hmf : ∀ (fn : Fn) (first cap : Array Value) (w : World), (Instr.makeFunc fn first cap).run Tryz.prog w = .ok (.func fn first cap) w := fun _ _ _ _ => rfl
  have hc := number_run (w.heap.size + 1 + 1) s 0 60 (W0 s w) hs (rb_0 s w) (by omega) ha (by omega)
  rw [hn] at hc
  have hin := at_in ha
  have H0 : Hid ((gi.okAt s 0 1 && decide (gi.num s 0 1 ≤ 60)) = true) := by unfold Hid; rw [ha, hn]; simp; omega
  have HN : Hid ((gi.num s 0 1).toNat = n) := by unfold Hid; rw [hn]; rfl
  go_enter_defers Tryz.func51, Tryz.ntmps51
  go_wp2_with (go_at_call 76; fail)
  refine hc.mono ?_
  rintro e W ⟨rfl, hr, ht⟩
  have HS0 : Hid (Sr s w n 0 (0 + 1) [] (.slice none 0 0) W) := sr_0 ((sb_0 s w).tr ht) hr (by omega)
  clear hc ht hr hin ha hn
  go_wp2
  go_loopw [9] (fun x wr => ∃ (k : Nat) (i : Int) (l : List flP.Pr) (v : Value), k ≤ n ∧ x = .int .i64 k ∧ Hid (Sr s w n k i l v wr)) (fun x _ => n - (intOf x).toNat)
  case atStart => exact ⟨0, 0 + 1, [], _, Nat.zero_le _, rfl, HS0⟩
  case round =>
    obtain ⟨k, i, l, v, hk, rfl, hst⟩ := hrel
    clear HS0
    by_cases hkn : k < n
    · have i2 : (k : Int) < (n : Int) := by omega
      have c0 : wr.cell? ⟨w.heap.size, 0, none⟩ = some v := bcell hst.out.sb.b rfl
      have hpr := pair_run (w.heap.size + 1 + 1) s i wr.drew hs hst.out.rb hst.out.lo hst.out.hi
      by_cases hgood : ∃ p j, stp s i = some (p, j) ∧ bo.okP p
      · obtain ⟨p, j, hp, hok⟩ := hgood
        have hpr2 : Calls Tryz.prog 77 #[.pointer (some ⟨w.heap.size + 1 + 1, 0, none⟩)] wr.drew fun e w' => e = .returned (.agg #[.string p.k, .string p.v, .bool p.g]) ∧ RB w' (w.heap.size + 1 + 1) s j ∧ Tr (w.heap.size + 1 + 1) wr w' := by
          refine hpr.mono ?_
          rintro e w' (⟨p', j', h1, h2, h3, h4, h5⟩ | ⟨h1, h2, h3⟩)
          · rw [hp] at h1
            cases h1
            exact ⟨h3, h4, (tr_drew _ _).trans h5⟩
          · exact absurd hok (h1 p j hp)
        have HM : Hid (∀ w1, RB w1 (w.heap.size + 1 + 1) s j → Tr (w.heap.size + 1 + 1) wr w1 → ∃ (g cp : Nat) (Y : World), (Builtin.append_ #[28, 28] 28 #[v, .slice (some ⟨w1.heap.size, 0, none⟩) 1 1]).run Tryz.prog (w1.alloc (.cells #[.string p.k, .string p.v, .bool p.g] 61)) = .ok (.slice (some ⟨g, 0, none⟩) (l ++ [p]).length cp) Y ∧ Y.cell? ⟨w.heap.size, 0, none⟩ = some v ∧ Y.frozen? ⟨w.heap.size, 0, none⟩ = false ∧ w1.cell? ⟨w.heap.size, 0, none⟩ = some v ∧ (w1.alloc (.cells #[.string p.k, .string p.v, .bool p.g] 61)).cell? ⟨w.heap.size, 0, none⟩ = some v ∧ Hid (Sr s w n (k + 1) j (l ++ [p]) (.slice (some ⟨g, 0, none⟩) (l ++ [p]).length cp) (Y.setCell ⟨w.heap.size, 0, none⟩ (.slice (some ⟨g, 0, none⟩) (l ++ [p]).length cp)))) := by
          intro w1 h1 h2
          obtain ⟨v', Y, a1, a2, a3, a4⟩ := one_more hs hst.out hkn hn60 h2 h1 hp hok
          rcases a4.row.2 with ⟨e, h0⟩ | ⟨g, cap, cur, e, _⟩
          · simp at h0
          · subst e
            exact ⟨g, cap, Y, a1, a2, a3, bcell (hst.out.sb.tr h2).b rfl, bcell (bold (hst.out.sb.tr h2).b _) rfl, a4⟩
        clear hpr hst hp hok
        go_wp2
        go_region_with (go_at_call 77; refine hpr2.mono ?_; rintro e w1 ⟨rfl, hr1, ht1⟩; obtain ⟨g, cp, Y, hrun, y0, y1, c1, c2, HN1⟩ := HM.out w1 hr1 ht1; clear hr1 ht1; obtain ⟨ln, hln⟩ : ∃ ln, (l ++ [p]).length = ln := ⟨_, rfl⟩; rw [hln] at hrun HN1; clear hln; simp [go_sem] at hrun)
        all_goals go_wp2
        all_goals go_roundw
        all_goals first | exact ⟨k + 1, j, _, _, by omega, by go_num, HN1⟩ | (simp [intOf]; omega)
      · have hpr2 : Calls Tryz.prog 77 #[.pointer (some ⟨w.heap.size + 1 + 1, 0, none⟩)] wr.drew fun e w' => Pk e ∧ Tr (w.heap.size + 1 + 1) wr w' := by
          refine hpr.mono ?_
          rintro e w' (⟨p', j', h1, h2, h3, h4, h5⟩ | ⟨h1, h2, h3⟩)
          · exact absurd ⟨p', j', h1, h2⟩ hgood
          · exact ⟨h2, (tr_drew _ _).trans h3⟩
        clear hpr
        go_wp2
        have HG : Hid (gotL s = [] ∧ gotB s = false) := got_none (got_stop HN.out hst.out.left hkn hgood)
        have HL : Hid (∀ w1, Tr (w.heap.size + 1 + 1) wr w1 → Sb w v w1) := fun w1 h1 => hst.out.sb.tr h1
        refine wp_region_any (by kernel_rfl) ?_
        change wpAny _ _ _ _ _ _ _ (World.drew _)
        refine wpAny_ready (rs := [0, 1]) (by kernel_rfl) (by simp) ?_
        refine AllReady.cons rfl (fun K hK => ?_) ?_
        · go_simp
          refine hK _ _ ?_
          clear hK K
          refine wpAny_ready (rs := [1]) (by kernel_rfl) (by simp) ?_
          refine AllReady.cons rfl (fun K hK => ?_) AllReady.nil
          go_simp
          refine hpr2.mono ?_
          rintro e w1 ⟨⟨jj, rfl⟩, ht1⟩
          have hS := HL.out w1 ht1
          go_wp2
          refine leaves_cons (f := 74) (args := #[.pointer (some ⟨w.heap.size, 0, none⟩), .pointer (some ⟨w.heap.size + 1, 0, none⟩)]) (by simp) (by simp [go_sem]) ?_
          refine (catch_hit w.heap.size (w.heap.size + 1) jj _ _ w1 (hS.et hg) (bcell hS.b rfl) (bfree hS.b 0) (bcell hS.o rfl) (bfree hS.o 0) (by omega)).mono ?_
          rintro e u' w'' ⟨rfl, rfl, w2, hb, rfl⟩
          obtain ⟨h1, h2, h3⟩ := sb_left hS hb
          rw [HG.out.1, HG.out.2]
          simp [Leaves, settle, results, Tryz.results51, go_sem, h1, h2]
          exact ⟨World.ownsRow_nil _ _ _ _, h3⟩
        · refine AllReady.cons rfl (fun K hK => ?_) AllReady.nil
          go_simp
          refine hpr2.mono ?_
          rintro e w1 ⟨⟨jj, rfl⟩, ht1⟩
          have hS := HL.out w1 ht1
          go_wp2
          refine leaves_cons (f := 74) (args := #[.pointer (some ⟨w.heap.size, 0, none⟩), .pointer (some ⟨w.heap.size + 1, 0, none⟩)]) (by simp) (by simp [go_sem]) ?_
          refine (catch_hit w.heap.size (w.heap.size + 1) jj _ _ w1 (hS.et hg) (bcell hS.b rfl) (bfree hS.b 0) (bcell hS.o rfl) (bfree hS.o 0) (by omega)).mono ?_
          rintro e u' w'' ⟨rfl, rfl, w2, hb, rfl⟩
          obtain ⟨h1, h2, h3⟩ := sb_left hS hb
          rw [HG.out.1, HG.out.2]
          simp [Leaves, settle, results, Tryz.results51, go_sem, h1, h2]
          exact ⟨World.ownsRow_nil _ _ _ _, h3⟩
    · obtain rfl : k = n := by omega
      have hrn := left_end (by have := hst.out.left; rw [Nat.sub_self] at this; exact this)
      by_cases he : i = (s.size : Int)
      · have HG : Hid (gotL s = l ∧ gotB s = true) := got_some (gbs.got_good H0.out (by rw [HN.out]; exact hrn) (by
          rw [(bo.okb_iff l).2 ⟨by have := hst.out.len; omega, fun a e h => hst.out.ok e (List.mem_of_getElem? h)⟩]
          simp [he]))
        have hen := end_run (w.heap.size + 1 + 1) s i wr hst.out.rb he
        obtain ⟨va, vc, hv⟩ : ∃ va vc, v = .slice va l.length vc := by
          rcases hst.out.row.2 with ⟨e, h0⟩ | ⟨g, cap, cur, e, _⟩
          · exact ⟨none, 0, by rw [e, h0]⟩
          · exact ⟨_, _, e⟩
        subst hv
        have HL : Hid (∀ w1, Tr (w.heap.size + 1 + 1) wr w1 → Sb w (.slice va l.length vc) w1 ∧ w1.ownsRow (w.heap.size + 1 + 1 + 1) 61 3 (.slice va l.length vc) l.length (l.flatMap flP.c)) := fun w1 h1 => ⟨hst.out.sb.tr h1, row_at hst.out.row (by omega) h1⟩
        clear hrn he hst
        go_wp2_with (go_at_call 78; fail)
        refine hen.mono ?_
        rintro e w1 ⟨rfl, ht1⟩
        have HS : Hid (Sb w (.slice va l.length vc) w1 ∧ w1.ownsRow (w.heap.size + 1 + 1 + 1) 61 3 (.slice va l.length vc) l.length (l.flatMap flP.c)) := HL.out w1 ht1
        clear hen HL ht1
        have b0 : w1.cell? ⟨w.heap.size, 0, none⟩ = some (.slice va l.length vc) := bcell HS.out.1.b rfl
        have b1 : w1.frozen? ⟨w.heap.size, 0, none⟩ = false := bfree HS.out.1.b 0
        have o0 : w1.cell? ⟨w.heap.size + 1, 0, none⟩ = some (.bool false) := bcell HS.out.1.o rfl
        have o1 : w1.frozen? ⟨w.heap.size + 1, 0, none⟩ = false := bfree HS.out.1.o 0
        go_wp2
        refine leaves_cons (f := 74) (args := #[.pointer (some ⟨w.heap.size, 0, none⟩), .pointer (some ⟨w.heap.size + 1, 0, none⟩)]) (by simp) (by simp [go_sem]) ?_
        refine (catch_idle ⟨w.heap.size, 0, none⟩ ⟨w.heap.size + 1, 0, none⟩ _).mono ?_
        rintro e u' w'' ⟨rfl, rfl, rfl⟩
        obtain ⟨h1, h2, h3, h4⟩ := sb_done HS.out.1 HS.out.2
        rw [HG.out.1, HG.out.2]
        simp only [Leaves, settle]
        refine ⟨.tuple #[.slice va l.length vc, .bool true], by simp [results, Tryz.results51, go_sem, h1, h2], _, rfl, h4, h3⟩
      · have HG : Hid (gotL s = [] ∧ gotB s = false) := got_none (gbs.got_bad3 (by rw [HN.out]; exact hrn) (by simp [he]))
        have hen := end_bad (w.heap.size + 1 + 1) s i wr hst.out.rb he
        go_wp2_with (go_at_call 78; fail)
        refine hen.mono ?_
        rintro e w1 ⟨⟨jj, rfl⟩, ht1⟩
        have hS := hst.out.sb.tr ht1
        go_wp2
        refine leaves_cons (f := 74) (args := #[.pointer (some ⟨w.heap.size, 0, none⟩), .pointer (some ⟨w.heap.size + 1, 0, none⟩)]) (by simp) (by simp [go_sem]) ?_
        refine (catch_hit w.heap.size (w.heap.size + 1) jj _ _ w1 (hS.et hg) (bcell hS.b rfl) (bfree hS.b 0) (bcell hS.o rfl) (bfree hS.o 0) (by omega)).mono ?_
        rintro e u' w'' ⟨rfl, rfl, w2, hb, rfl⟩
        obtain ⟨h1, h2, h3⟩ := sb_left hS hb
        rw [HG.out.1, HG.out.2]
        simp [Leaves, settle, results, Tryz.results51, go_sem, h1, h2]
        exact ⟨World.ownsRow_nil _ _ _ _, h3⟩

/-- the program's GetBatch, at every text -/
theorem impl_got (s : ByteArray) (w : World) (hs : s.size ≤ 1048576) (hg : ET w) :
    Calls Tryz.prog 51 #[.string s] w fun e w' => ∃ v, e = .returned (.tuple #[v, .bool (gotB s)]) ∧ w'.ownsRow w.heap.size 61 3 v (gotL s).length ((gotL s).flatMap flP.c) ∧ Below w.heap.size w w' := by
  cases hc : (gi.okAt s 0 1 && decide (gi.num s 0 1 ≤ 60)) with
  | false =>
    refine (impl_bad s w hs hg hc).mono ?_
    rintro e w' ⟨rfl, hb⟩
    have hG := got_none (gbs.got_bad1 hc)
    rw [hG.1, hG.2]
    exact ⟨_, rfl, World.ownsRow_nil _ _ _ _, hb⟩
  | true =>
    simp only [Bool.and_eq_true, decide_eq_true_eq] at hc
    have hin := at_in hc.1
    exact impl_run s w hs hg hc.1 (gi.num s 0 1).toNat (by omega) (by omega)
end Go.Proofs.YtoemkbooomgieaaGreatDoor.gim

/- The program's Records. -/
namespace Go.Proofs.YtoemkbooomgieaaGreatDoor.rcI
open Go.ChangeShapes Go.WideShapes Go.ChangeAt Go.RowKit Go.Proofs.YtoemkbooomgieaaGreatDoor.fl Go.Proofs.YtoemkbooomgieaaGreatDoor.fo Go.Proofs.YtoemkbooomgieaaGreatDoor.rn Go.Proofs.YtoemkbooomgieaaGreatDoor.mrR Go.Proofs.YtoemkbooomgieaaGreatDoor.gbp Go.Proofs.YtoemkbooomgieaaGreatDoor.rcp Go.Proofs.YtoemkbooomgieaaGreatDoor.rcm Go.Proofs.YtoemkbooomgieaaGreatDoor.rcS Go.Proofs.YtoemkbooomgieaaGreatDoor.asf
set_option linter.unusedVariables false

/-- what the program's tables hold: the sums' table, and the library's variable that errors.As reads -/
structure TB (w : World) : Prop where
  et : ET w
  tab : ∀ r, r < 16 → w.cell? ⟨0, r, none⟩ = some (.int .u32 (cs.tab r : Int))
theorem TB.lt {w : World} (h : TB w) : 1 < w.heap.size ∧ 0 < w.heap.size := by
  refine ⟨h.et.lt, ?_⟩
  have h2 := h.tab 0 (by decide)
  rcases Nat.lt_or_ge 0 w.heap.size with h3 | h3
  · exact h3
  · simp [World.cell?, Array.getElem?_eq_none h3] at h2
theorem TB.below {B : Nat} {w w' : World} (h : TB w) (hb : Below B w w') (hl : 1 < B ∧ 0 < B) : TB w' :=
  ⟨(hb.cell (p := ⟨1, 0, none⟩) hl.1).trans h.et, fun r hr => (hb.cell (p := ⟨0, r, none⟩) hl.2).trans (h.tab r hr)⟩
theorem TB.on {w w' : World} (h : TB w) (hb : Below w.heap.size w w') : TB w' := h.below hb h.lt

/-- what getRecord answers: the batch at a place and the place behind it, or -1 -/
def RP (s : ByteArray) (i : Int) (w : World) (e : Ending) (w' : World) : Prop := ∃ v, e = .returned (.tuple #[v, .int .i64 (if isR s i = true then nxt s i else -1)]) ∧ (isR s i = true → w'.ownsRow w.heap.size 61 3 v (bat s i).length ((bat s i).flatMap flP.c)) ∧ Below w.heap.size w w'
theorem low {W : World} {B B' n m : Nat} {T : TypeId} {v : Value} {xs : List Value} (h : W.ownsRow B T m v n xs) (hB : B' ≤ B) : W.ownsRow B' T m v n xs := by
  obtain ⟨h0, h1 | ⟨g, cap, cur, h1, h2, h3⟩⟩ := h
  · exact ⟨h0, .inl h1⟩
  · exact ⟨h0, .inr ⟨g, cap, cur, h1, Nat.le_trans hB h2, h3⟩⟩
set_option maxRecDepth 100000 in
set_option maxHeartbeats 2000000 in
theorem impl_rec (s : ByteArray) (i : Int) (w : World) (hs : s.size ≤ 1048576) (hlo : 0 ≤ i) (hhi : i ≤ s.size) (hT : TB w) :
    Calls Tryz.prog 30 #[.string s, .int .i64 i] w fun e w' => RP s i w e w' := by
  have HT : Hid (TB w) := hT
  have NO : Hid (isR s i = false → ∀ X, Below w.heap.size w X → RP s i w (.returned (.tuple #[.slice none 0 0, .int .i64 (-1)])) X) := fun h X hb => ⟨_, by rw [h]; rfl, fun h2 => by (rw [h] at h2; cases h2), hb⟩
  clear hT
  have hgi := gi.impl_get s i 4 w hs (by omega) (by omega)
  go_enter Tryz.func30, Tryz.ntmps30
  go_wp2_with (go_at_call 48; fail)
  refine hgi.mono ?_
  rintro e w1 ⟨rfl, hw1⟩
  obtain rfl := hw1.symm
  clear hgi
  cases ha : gi.okAt s i 4 with
  | false =>
    have h0 := gl.none s i ha
    rw [h0.1, h0.2]
    have hgl := gl.impl_getLong s (-1) w hs (by omega) (by omega)
    have h1 : gl.here s (-1) = false := by
      cases h : gl.here s (-1) with
      | false => rfl
      | true =>
        unfold gl.here at h
        simp only [Bool.and_eq_true] at h
        have := at4 h.1.1
        omega
    rw [long_no h1] at hgl
    go_wp2_with (go_at_call 49; fail)
    refine hgl.mono ?_
    rintro e w2 ⟨rfl, hb2⟩
    clear hgl
    have HF := NO.out (no_1 ha) w2 hb2
    go_wp2
    go_ret2
    exact HF
  | true =>
    have hA := at4 ha
    rw [stop4 ha]
    have hgl := gl.impl_getLong s (i + 4) w hs (by omega) (by omega)
    go_wp2_with (go_at_call 49; fail)
    refine hgl.mono ?_
    rintro e w2 ⟨rfl, hb2⟩
    clear hgl
    cases hh : gl.here s (i + 4) with
    | false =>
      rw [long_no hh]
      have HF := NO.out (no_2 hh) w2 hb2
      go_wp2
      go_ret2
      exact HF
    | true =>
      have hL := long_in hh
      have h5 : ¬ gl.behind s (i + 4) < 0 := by omega
      have hcs := cs.impl_sum (gl.text s (i + 4)) w2 (text_small hs).2 (HT.out.on hb2).tab
      have hsl := sum_lt (gl.text s (i + 4))
      go_wp2_with (go_at_call 50; fail)
      refine hcs.mono ?_
      rintro e w4 ⟨rfl, hw4⟩
      obtain rfl := hw4
      clear hcs
      by_cases he : gi.num s i 4 = (cs.sum (gl.text s (i + 4)) : Int)
      · have hgb := gim.impl_got (gl.text s (i + 4)) w2 (text_small hs).2 (HT.out.on hb2).et
        have hmw : wrap64 (cs.sum (gl.text s (i + 4)) : Int) = (cs.sum (gl.text s (i + 4)) : Int) := IntWalk.wrap64_in _ (by omega)
        rw [he]
        go_wp2_with (go_at_call 51; fail)
        refine hgb.mono ?_
        rintro e w3 ⟨vb, rfl, hrow, hb3⟩
        have hb13 : Below w.heap.size w w3 := hb2.trans (hb3.mono hb2.size)
        clear hgb
        cases hg : gotB (gl.text s (i + 4)) with
        | false =>
          have HF := NO.out (no_3 hg) w3 hb13
          go_wp2
          go_ret2
          exact HF
        | true =>
          have HY := yes ha hh hg he
          have HF : Hid (RP s i w (.returned (.tuple #[vb, .int .i64 (gl.behind s (i + 4))])) w3) := by
            refine ⟨vb, by rw [HY]; rfl, fun _ => ?_, hb13⟩
            exact low hrow hb2.size
          clear hrow HY
          go_wp2
          go_ret2
          exact HF.out
      · have HF := NO.out (no_4 he) w2 hb2
        obtain ⟨n4, hn4⟩ : ∃ n4, gi.num s i 4 = n4 := ⟨_, rfl⟩
        obtain ⟨m4, hm4⟩ : ∃ m4 : Int, (cs.sum (gl.text s (i + 4)) : Int) = m4 := ⟨_, rfl⟩
        rw [hn4] at he ⊢
        rw [hm4] at he ⊢
        have he2 : (m4 != n4) = true := by simpa using fun h => he h.symm
        have hmw : wrap64 m4 = m4 := IntWalk.wrap64_in m4 (by rw [← hm4]; omega)
        have he3 : (wrap64 m4 != n4) = true := by rw [hmw]; exact he2
        clear hn4 hm4 hsl hA
        go_wp2
        go_ret2
        exact HF

set_option maxRecDepth 100000 in
set_option maxHeartbeats 2000000 in
theorem impl_recs (s : ByteArray) (w : World) (hs : s.size ≤ 1048576) (hT : TB w) :
    Calls Tryz.prog 14 #[.string s] w fun e w' => ∃ v, e = .returned (.tuple #[v, .int .i64 (recs s).2]) ∧ ∃ rs : List Rn, rs.map (·.l) = (recs s).1 ∧ RO w w' v rs := by
  have HR0 : Hid (RO w w (.slice none 0 0) []) := ⟨Below.refl _ _, World.ownsRow_nil w w.heap.size _ 1, fun r hr => by (cases hr), fun i j r s hi => by simp at hi⟩
  by_cases hbig : 200000 < s.size
  · have b2 : (200000 : Int) < (s.size : Int) := by omega
    go_enter Tryz.func14, Tryz.ntmps14
    go_wp2
    go_ret2
    rw [recs_big hbig]
    exact ⟨_, rfl, [], rfl, HR0.out⟩
  have hs2 : s.size ≤ 200000 := by omega
  have b2 : ¬ (200000 : Int) < (s.size : Int) := by omega
  have HS0 : Hid (St s w 0 [] (.slice none 0 0) w) := ⟨HR0.out, left_0 s⟩
  have HT : Hid (TB w) := hT
  clear HR0 hbig hT
  go_enter Tryz.func14, Tryz.ntmps14
  go_wp2
  go_loopw [4, 5] (fun v y wr => ∃ (i : Int) (rs : List Rn), y = .int .i64 i ∧ Hid (St s w i rs v wr)) (fun _ y _ => s.size - (intOf y).toNat)
  case atStart => exact ⟨0, [], rfl, HS0⟩
  case round =>
    obtain ⟨i, rs, rfl, hst⟩ := hrel
    clear HS0
    obtain ⟨hlo, hhi⟩ := hst.out.lo
    have hlen := hst.out.len hs2
    have hrc := impl_rec s i wr hs hlo hhi (HT.out.on hst.out.ro.bel)
    go_wp2_with (go_at_call 30; fail)
    refine hrc.mono ?_
    rintro e w3 ⟨vb, rfl, hrow, hb13⟩
    clear hrc
    cases hr : isR s i with
    | false =>
      have HF := hst.out.fin hs2 hr hb13
      rw [if_neg (by decide)]
      go_wp2
      go_ret2
      exact HF
    | true =>
      rw [if_pos rfl]
      have HI := isR_in hr
      have h5 : ¬ nxt s i < 0 := by omega
      obtain ⟨ga, gc, rfl, hm⟩ := pmk.mine_of flP.c_len (hrow hr)
      obtain ⟨v', Y, hrun, hro⟩ := app_one (c := gc) hst.out.ro hb13 hm (by omega)
      have HN : Hid (St s w (nxt s i) (rs ++ [⟨ga, gc, bat s i⟩]) v' Y) := hst.out.next hr hro
      clear hm hro hrow hst hb13 hr
      go_wp2_with (at_builtin; refine cpr.wpList_append_run rfl _ _ _ _ rfl _ _ _ rfl rfl hrun ?_)
      go_roundw
      case rel => exact ⟨_, _, rfl, HN⟩
      case measure => simp [intOf]; omega
end Go.Proofs.YtoemkbooomgieaaGreatDoor.rcI

/- slices.Sorted(maps.Keys(m)), laid by the kit's own program at the seat YtoemkbooomgieaaGreatDoor, in plain words: its numbers are that seat's (layiter.py lays it anew for another). -/
namespace Go.Proofs.YtoemkbooomgieaaGreatDoor.itl
open Go.RowKit Go.Maps Go.Sort Go.Shelf
def keysL_ren : Go.Shelf.Ren := ⟨fun | 7 => 47 | 10 => 71 | n => n, fun | 23 => 82 | 26 => 9 | 3 => 61 | 28 => 85 | 0 => 0 | 27 => 84 | 33 => 118 | 4 => 4 | n => n, fun | n => n⟩
theorem keysL : Go.Proofs.SlLaysZ.n7 Tryz.prog keysL_ren := {
  mixed := by kernel_rfl
  f7 := ⟨Tryz.f47.name, by decide, Tryz.func47.trans (congrArg some (by kernel_rfl))⟩
  f10 := ⟨Tryz.f71.name, by decide, Tryz.func71.trans (congrArg some (by kernel_rfl))⟩
  t0 := Tryz.underlying0
  a0 := Tryz.isAgg0
  z0 := Tryz.sizeOf0
  v0 := Tryz.zeroValue0
  t4 := Tryz.underlying4
  a4 := Tryz.isAgg4
  z4 := Tryz.sizeOf4
  v4 := Tryz.zeroValue4
  t23 := Tryz.underlying82
  a23 := Tryz.isAgg82
  z23 := Tryz.sizeOf82
  v23 := Tryz.zeroValue82
  t26 := Tryz.underlying9
  a26 := Tryz.isAgg9
  z26 := Tryz.sizeOf9
  v26 := Tryz.zeroValue9
  t27 := Tryz.underlying84
  a27 := Tryz.isAgg84
  z27 := Tryz.sizeOf84
  v27 := Tryz.zeroValue84
  t28 := Tryz.underlying85
  a28 := Tryz.isAgg85
  z28 := Tryz.sizeOf85
  v28 := Tryz.zeroValue85
  t33 := Tryz.underlying118
  a33 := Tryz.isAgg118
  z33 := Tryz.sizeOf118
  v33 := Tryz.zeroValue118 }
def sortedL_ren : Go.Shelf.Ren := ⟨fun | 6 => 46 | 8 => 69 | 9 => 70 | 11 => 96 | 13 => 98 | 12 => 97 | 23 => 118 | 24 => 119 | 14 => 109 | 15 => 110 | 16 => 111 | 17 => 112 | 18 => 113 | 19 => 114 | 20 => 115 | 21 => 116 | 22 => 117 | 25 => 128 | 26 => 129 | 27 => 130 | 28 => 131 | 29 => 132 | 30 => 108 | 31 => 138 | n => n, fun | 26 => 9 | 28 => 85 | 24 => 70 | 0 => 0 | 3 => 3 | 37 => 95 | 48 => 91 | 50 => 176 | 4 => 4 | 40 => 167 | 39 => 166 | 45 => 172 | 5 => 5 | 9 => 9 | 51 => 194 | 55 => 198 | 57 => 214 | 58 => 87 | 33 => 118 | n => n, fun | n => n⟩
theorem sortedL : Go.Proofs.SlLaysZ.n6 Tryz.prog sortedL_ren := {
  mixed := by kernel_rfl
  f6 := ⟨Tryz.f46.name, by decide, Tryz.func46.trans (congrArg some (by kernel_rfl))⟩
  f8 := ⟨Tryz.f69.name, by decide, Tryz.func69.trans (congrArg some (by kernel_rfl))⟩
  f11 := ⟨Tryz.f96.name, by decide, Tryz.func96.trans (congrArg some (by kernel_rfl))⟩
  t0 := Tryz.underlying0
  a0 := Tryz.isAgg0
  z0 := Tryz.sizeOf0
  v0 := Tryz.zeroValue0
  t24 := Tryz.underlying70
  a24 := Tryz.isAgg70
  z24 := Tryz.sizeOf70
  v24 := Tryz.zeroValue70
  t26 := Tryz.underlying9
  a26 := Tryz.isAgg9
  z26 := Tryz.sizeOf9
  v26 := Tryz.zeroValue9
  t28 := Tryz.underlying85
  a28 := Tryz.isAgg85
  z28 := Tryz.sizeOf85
  v28 := Tryz.zeroValue85
  i26 := by kernel_rfl }
def sortL_ren : Go.Shelf.Ren := ⟨fun | 6 => 70 | 8 => 98 | 9 => 97 | 19 => 118 | 20 => 119 | 21 => 109 | 22 => 110 | 23 => 111 | 24 => 112 | 25 => 113 | 26 => 114 | 27 => 115 | 28 => 116 | 29 => 117 | 36 => 128 | 31 => 129 | 32 => 130 | 37 => 131 | 38 => 132 | 39 => 108 | 41 => 138 | n => n, fun | 27 => 70 | 29 => 9 | 3 => 3 | 32 => 95 | 26 => 70 | 0 => 0 | 44 => 91 | 46 => 176 | 4 => 4 | 36 => 167 | 35 => 166 | 41 => 172 | 5 => 5 | 9 => 9 | 53 => 194 | 57 => 198 | 63 => 214 | 64 => 87 | n => n, fun | n => n⟩
theorem sortL : Go.Proofs.SlLaysM.n6 Tryz.prog sortL_ren := {
  mixed := by kernel_rfl
  f6 := ⟨Tryz.f70.name, by decide, Tryz.func70.trans (congrArg some (by kernel_rfl))⟩
  f8 := Tryz.func98.trans (congrArg some (by kernel_rfl))
  f9 := ⟨Tryz.f97.name, by decide, Tryz.func97.trans (congrArg some (by kernel_rfl))⟩
  f19 := Tryz.func118.trans (congrArg some (by kernel_rfl))
  f20 := Tryz.func119.trans (congrArg some (by kernel_rfl))
  f21 := ⟨Tryz.f109.name, by decide, Tryz.func109.trans (congrArg some (by kernel_rfl))⟩
  f22 := ⟨Tryz.f110.name, by decide, Tryz.func110.trans (congrArg some (by kernel_rfl))⟩
  f23 := ⟨Tryz.f111.name, by decide, Tryz.func111.trans (congrArg some (by kernel_rfl))⟩
  f24 := ⟨Tryz.f112.name, by decide, Tryz.func112.trans (congrArg some (by kernel_rfl))⟩
  f25 := ⟨Tryz.f113.name, by decide, Tryz.func113.trans (congrArg some (by kernel_rfl))⟩
  f26 := ⟨Tryz.f114.name, by decide, Tryz.func114.trans (congrArg some (by kernel_rfl))⟩
  f27 := ⟨Tryz.f115.name, by decide, Tryz.func115.trans (congrArg some (by kernel_rfl))⟩
  f28 := ⟨Tryz.f116.name, by decide, Tryz.func116.trans (congrArg some (by kernel_rfl))⟩
  f29 := ⟨Tryz.f117.name, by decide, Tryz.func117.trans (congrArg some (by kernel_rfl))⟩
  f31 := Tryz.func129.trans (congrArg some (by kernel_rfl))
  f32 := Tryz.func130.trans (congrArg some (by kernel_rfl))
  f36 := ⟨Tryz.f128.name, by decide, Tryz.func128.trans (congrArg some (by kernel_rfl))⟩
  f37 := ⟨Tryz.f131.name, by decide, Tryz.func131.trans (congrArg some (by kernel_rfl))⟩
  f38 := ⟨Tryz.f132.name, by decide, Tryz.func132.trans (congrArg some (by kernel_rfl))⟩
  f39 := ⟨Tryz.f108.name, by decide, Tryz.func108.trans (congrArg some (by kernel_rfl))⟩
  f41 := ⟨Tryz.f138.name, by decide, Tryz.func138.trans (congrArg some (by kernel_rfl))⟩
  t0 := Tryz.underlying0
  a0 := Tryz.isAgg0
  z0 := Tryz.sizeOf0
  v0 := Tryz.zeroValue0
  t3 := Tryz.underlying3
  a3 := Tryz.isAgg3
  z3 := Tryz.sizeOf3
  v3 := Tryz.zeroValue3
  t4 := Tryz.underlying4
  a4 := Tryz.isAgg4
  z4 := Tryz.sizeOf4
  v4 := Tryz.zeroValue4
  t5 := Tryz.underlying5
  a5 := Tryz.isAgg5
  z5 := Tryz.sizeOf5
  v5 := Tryz.zeroValue5
  t9 := Tryz.underlying9
  a9 := Tryz.isAgg9
  z9 := Tryz.sizeOf9
  v9 := Tryz.zeroValue9
  t26 := Tryz.underlying70
  a26 := Tryz.isAgg70
  z26 := Tryz.sizeOf70
  v26 := Tryz.zeroValue70
  t27 := Tryz.underlying70
  a27 := Tryz.isAgg70
  z27 := Tryz.sizeOf70
  v27 := Tryz.zeroValue70
  t29 := Tryz.underlying9
  a29 := Tryz.isAgg9
  z29 := Tryz.sizeOf9
  v29 := Tryz.zeroValue9
  t32 := Tryz.underlying95
  a32 := Tryz.isAgg95
  z32 := Tryz.sizeOf95
  v32 := Tryz.zeroValue95
  t35 := Tryz.underlying166
  a35 := Tryz.isAgg166
  z35 := Tryz.sizeOf166
  v35 := Tryz.zeroValue166
  t36 := Tryz.underlying167
  a36 := Tryz.isAgg167
  z36 := Tryz.sizeOf167
  v36 := Tryz.zeroValue167
  t41 := Tryz.underlying172
  a41 := Tryz.isAgg172
  z41 := Tryz.sizeOf172
  v41 := Tryz.zeroValue172
  t44 := Tryz.underlying91
  a44 := Tryz.isAgg91
  z44 := Tryz.sizeOf91
  v44 := Tryz.zeroValue91
  t46 := Tryz.underlying176
  a46 := Tryz.isAgg176
  z46 := Tryz.sizeOf176
  v46 := Tryz.zeroValue176
  t53 := Tryz.underlying194
  a53 := Tryz.isAgg194
  z53 := Tryz.sizeOf194
  v53 := Tryz.zeroValue194
  t57 := Tryz.underlying198
  a57 := Tryz.isAgg198
  z57 := Tryz.sizeOf198
  v57 := Tryz.zeroValue198
  t63 := Tryz.underlying214
  a63 := Tryz.isAgg214
  z63 := Tryz.sizeOf214
  v63 := Tryz.zeroValue214
  t64 := Tryz.underlying87
  a64 := Tryz.isAgg87
  z64 := Tryz.sizeOf87
  v64 := Tryz.zeroValue87 }

theorem sortsL (m : Nat) : AnyZ.SortsIn Tryz.prog sortedL_ren Fence.wide m :=
  ⟨fun blk off cap ss W hH hblk hsz => callsIn_wide.2 (AnyM.slices_Sort_string sortL blk off cap ss W hH hblk hsz),
   fun p cap W => callsIn_wide.2 (AnyM.slices_Sort_string_none sortL p cap W)⟩

theorem keys_in (mb : Option Nat) (W : World) : CallsIn Fence.wide 5 Tryz.prog 47 #[.map mb] W fun e w' => e = .returned (.func (.func 71) #[] #[.pointer (some ⟨W.heap.size, 0, none⟩)]) ∧ w' = W.alloc (.cells #[.map mb] 82) :=
  AnyZ.keys_in keysL Fence.wide 5 trivial rfl mb W

set_option maxHeartbeats 1000000 in
theorem sorted_in {H : Type} (b nn : Nat) (D0 : DataW H) (R : Value → Option (DataW H × List MemPlace)) (w : World) (hown : w.ownsMap Tryz.prog 9 R b nn D0) (hmax : Maps.size D0 ≤ maxLen) (hbytes : Maps.size D0 * 16 ≤ 140737488355328) :
    CallsIn Fence.wide 5 Tryz.prog 46 #[.func (.func 71) #[] #[.pointer (some ⟨w.heap.size, 0, none⟩)]] (w.alloc (.cells #[.map (some b)] 82)) fun e w' => ∃ (v : Value) (ss : List (List UInt8)), e = .returned v ∧ ss.Perm (strKeys D0) ∧
      w'.ownsRow (w.alloc (.cells #[.map (some b)] 82)).heap.size 9 1 v ss.length ((ss.mergeSort (fun x y => decide (x ≤ y))).map encStr) ∧ (v = .slice none 0 0 ↔ ss = []) ∧ Below (w.alloc (.cells #[.map (some b)] 82)).heap.size (w.alloc (.cells #[.map (some b)] 82)) w' := by
  have hbl := hown.lt
  have hseq : SeqGives Fence.wide 2 Tryz.prog 71 #[.pointer (some ⟨w.heap.size, 0, none⟩)] encStr (fun ss => ss.Perm (strKeys D0)) (Maps.size D0) (w.alloc (.cells #[.map (some b)] 82)) :=
    AnyZ.keys_gives (ρ := keysL_ren) { keysL with } Fence.wide _ trivial rfl (by omega) w.heap.size b nn D0 _ (by simp) (by simp) (by
      obtain ⟨es, clock, hb, Ft, hs, hD⟩ := hown
      exact ⟨es, clock, (Below.heap_alloc _ _ b hbl).trans hb, Ft, hs, hD⟩)
  exact AnyZ.sorted_in sortedL Fence.wide 5 trivial trivial trivial trivial rfl (by omega) (sortsL _) (enters_of Tryz.func70 (by kernel_rfl) rfl) 71 #[.pointer (some ⟨w.heap.size, 0, none⟩)] trivial (enters_of Tryz.func71 (by kernel_rfl) rfl) _ _ hmax hbytes _ hseq


theorem keys_call (mb : Option Nat) (W : World) : Calls Tryz.prog 47 #[.map mb] W fun e w' => e = .returned (.func (.func 71) #[] #[.pointer (some ⟨W.heap.size, 0, none⟩)]) ∧ w' = W.alloc (.cells #[.map mb] 82) := callsIn_wide.1 (keys_in mb W)
theorem sorted_call {H : Type} (b nn : Nat) (D0 : DataW H) (R : Value → Option (DataW H × List MemPlace)) (w : World) (hown : w.ownsMap Tryz.prog 9 R b nn D0) (hmax : Maps.size D0 ≤ maxLen) (hbytes : Maps.size D0 * 16 ≤ 140737488355328) :
    Calls Tryz.prog 46 #[.func (.func 71) #[] #[.pointer (some ⟨w.heap.size, 0, none⟩)]] (w.alloc (.cells #[.map (some b)] 82)) fun e w' => ∃ (v : Value) (ss : List (List UInt8)), e = .returned v ∧ ss.Perm (strKeys D0) ∧
      w'.ownsRow (w.alloc (.cells #[.map (some b)] 82)).heap.size 9 1 v ss.length ((ss.mergeSort (fun x y => decide (x ≤ y))).map encStr) ∧ (v = .slice none 0 0 ↔ ss = []) ∧ Below (w.alloc (.cells #[.map (some b)] 82)).heap.size (w.alloc (.cells #[.map (some b)] 82)) w' := callsIn_wide.1 (sorted_in b nn D0 R w hown hmax hbytes)
end Go.Proofs.YtoemkbooomgieaaGreatDoor.itl

/- The program's Replay. -/
namespace Go.Proofs.YtoemkbooomgieaaGreatDoor.rpi
open Go.ChangeShapes Go.WideShapes Go.ChangeAt Go.RowKit Go.Proofs.YtoemkbooomgieaaGreatDoor.fl Go.Proofs.YtoemkbooomgieaaGreatDoor.fo Go.Proofs.YtoemkbooomgieaaGreatDoor.rn Go.Proofs.YtoemkbooomgieaaGreatDoor.mrR Go.Proofs.YtoemkbooomgieaaGreatDoor.rcp Go.Proofs.YtoemkbooomgieaaGreatDoor.rcm Go.Proofs.YtoemkbooomgieaaGreatDoor.rpp Go.Proofs.YtoemkbooomgieaaGreatDoor.rps Go.Proofs.YtoemkbooomgieaaGreatDoor.rcI
set_option linter.unusedVariables false

/-- what stands when some pairs are set in the map -/
structure Sm (W : World) (b : Nat) (R : List (List flP.Pr)) (i k : Nat) (wr : World) : Prop where
  bel : Below W.heap.size W wr
  mp : ∃ n, n ≤ (upto R i k).length ∧ wr.ownsMap Tryz.prog 9 rd b n (dm (ev (upto R i k)))

def cT (p : flP.Pr) : List Value := [.string p.k]
theorem cT_len (p : flP.Pr) : (cT p).length = 1 := rfl
theorem keys_cells : ∀ (L : List flP.Pr), (bts L).map encStr = L.flatMap cT
  | [] => rfl
  | p :: L => by
    have ih := keys_cells L
    unfold bts at ih ⊢
    rw [List.map_cons, List.map_cons, List.flatMap_cons, ih]
    rfl
/-- a look-up of a key that is there -/
theorem look {w : World} {b n : Nat} {L : List flP.Pr} {p : flP.Pr} (h : w.ownsMap Tryz.prog 9 rd b n (dm L)) (hA : mgp.Asc L) (hp : p ∈ L) (hk : p.k.size ≤ 100) :
    (Instr.lookup 82 (.map (some b)) (.string p.k) false).run Tryz.prog w = .ok (.agg #[.string p.k, .string p.v, .bool p.g]) w := by
  obtain ⟨v, ps, hrun, hv⟩ := h.lookup (Maps.string_keyed Tryz.underlying9) Tryz.underlying82 (Tryz.zeroValue61 w) (rd_mk _ _ _) (WideMaps.keyOf_string_mk (s := p.k) Tryz.underlying9 (by unfold maxLen; omega))
  obtain ⟨k, v', g, rfl, hz⟩ := rd_inv hv
  have h2 := (Prod.mk.inj hz).1
  have h3 : pd p = pd ⟨k, v', g⟩ := (dm_at hA hp _).symm.trans h2
  obtain rfl := pd_inj h3
  exact hrun
theorem own_map {w w' : World} {P : Program} {k : TypeId} {R : Value → Option (DataW Unit × List MemPlace)} {b n : Nat} {D : DataW Unit} (h : w.ownsMap P k R b n D) (hb : Below w.heap.size w w') : w'.ownsMap P k R b n D :=
  h.kept (row := none) ⟨hb.os, hb.tape, hb.output, hb.size, fun i hi _ => hb.block i hi⟩ (by simp)
theorem ev_ok {A : List flP.Pr} (h : ∀ e ∈ A, bo.okP e) : ∀ e ∈ ev A, bo.okP e := by
  have gen : ∀ (A L : List flP.Pr), (∀ e ∈ A, bo.okP e) → (∀ e ∈ L, bo.okP e) → ∀ e ∈ A.foldl ptp.setP L, bo.okP e := by
    intro A
    induction A with
    | nil => intro L _ hL; exact hL
    | cons a A ih =>
      intro L hA hL
      refine ih _ (fun e he => hA e (List.mem_cons_of_mem _ he)) (fun e he => ?_)
      rcases ptp.setP_mem he with h | h
      · exact hL e h
      · rw [h]; exact hA a (List.mem_cons_self ..)
  exact gen A [] h (fun e he => by cases he)
/-- what stands while what stays is laid -/
def S5 (W5 : World) (L : List flP.Pr) (k : Nat) (v : Value) (wx : World) : Prop := Below W5.heap.size W5 wx ∧ wx.ownsRow W5.heap.size 61 3 v ((L.take k).filter kp).length (((L.take k).filter kp).flatMap flP.c)
set_option maxRecDepth 100000 in
set_option maxHeartbeats 4000000 in
theorem impl_replay (s : ByteArray) (w : World) (hs : s.size ≤ 1048576) (hT : TB w) :
    Calls Tryz.prog 27 #[.string s] w fun e w' => ∃ v, e = .returned v ∧ w'.ownsRow w.heap.size 61 3 v (rep s).length ((rep s).flatMap flP.c) ∧ Below w.heap.size w w' := by
  have hrc := impl_recs s w hs hT
  obtain ⟨R, hR⟩ : ∃ R, (recs s).1 = R := ⟨_, rfl⟩
  obtain ⟨z, hz⟩ : ∃ z, (recs s).2 = z := ⟨_, rfl⟩
  have HRep : Hid (rep s = (ev R.flatten).filter kp) := by unfold Hid rep; rw [hR]; rfl
  have hfl : R.flatten.length ≤ 200000 ∧ R.length ≤ 25000 ∧ ∀ l ∈ R, ∀ e ∈ l, bo.okP e := by
    by_cases h : s.size ≤ 200000
    · obtain ⟨i, hi, _⟩ := left_ex s h
      rw [hR] at hi
      exact ⟨by have := hi.tot; have := hi.hi; omega, left_len h hi, hi.oks⟩
    · rw [recs_big (by omega)] at hR
      subst hR
      simp
  obtain ⟨hf1, hf2, hf3⟩ := hfl
  have HOK : Hid (∀ l ∈ R, ∀ e ∈ l, bo.okP e) := hf3
  rw [hR, hz] at hrc
  clear hR hz hf3
  go_enter Tryz.func27, Tryz.ntmps27
  go_wp2_with (go_at_call 14; fail)
  refine hrc.mono ?_
  rintro e W ⟨v1, rfl, rs, hm, hro⟩
  obtain ⟨la, lc, rfl, hvr, _⟩ := hro.vr
  have hBW := hro.bel
  have hrl : rs.length = R.length := by rw [← hm, List.length_map]
  have HVR : Hid (VR W W.heap.size la rs) := hvr
  have HM : Hid (rs.map (·.l) = R) := hm
  have hmm := @run_makeMap Tryz.prog
  have hkd : Maps.Keyed Tryz.prog 9 := Maps.string_keyed Tryz.underlying9
  have hal : Below W.heap.size W (W.alloc (.map #[] 0)) := (Below.refl _ _).alloc (Nat.le_refl _) _
  have HS0 : Hid (Sm W W.heap.size R 0 0 (W.alloc (.map #[] 0))) := ⟨hal, 0, Nat.zero_le _, by rw [upto_0]; exact World.ownsMap_made W Tryz.prog 9 rd⟩
  clear hrc hro hvr hm hT
  rw [hrl]
  go_wp2
  obtain ⟨W2, hW2⟩ : ∃ W2, W.alloc (.map #[] 0) = W2 := ⟨_, rfl⟩
  rw [hW2] at HS0 hal ⊢
  clear hW2 hmm
  go_loopw [22] (fun x wr => ∃ i : Nat, i ≤ R.length ∧ x = .int .i64 i ∧ Hid (Sm W W.heap.size R i 0 wr)) (fun x _ => R.length - (intOf x).toNat)
  case atStart => exact ⟨0, Nat.zero_le _, rfl, HS0⟩
  case round =>
    obtain ⟨i, hi, rfl, hst⟩ := hrel
    by_cases hil : i < R.length
    · have hir : i < rs.length := by omega
      have i2 : (i : Int) < (R.length : Int) := by omega
      have HG : Hid (rs[i]? = some rs[i]) := List.getElem?_eq_getElem hir
      have HRR : Hid (Row flP.c 3 W W.heap.size rs[i].a rs[i].l) := HVR.out.2 rs[i] (List.getElem_mem hir)
      have HRI : Hid (R[i]? = some rs[i].l) := by unfold Hid; rw [← HM.out, List.getElem?_map, List.getElem?_eq_getElem hir]; rfl
      obtain ⟨⟨ra, rc, rl⟩, he⟩ : ∃ e, rs[i] = e := ⟨_, rfl⟩
      rw [he] at HG HRR HRI
      obtain ⟨b, off, rfl, hlt, hc⟩ := HVR.out.1.resolve_left (by rintro rfl; simp at hir)
      have HOL : Hid (∀ e ∈ rl, bo.okP e) := HOK.out rl (List.mem_of_getElem? HRI.out)
      have c0 : wr.cell? ⟨b, off + i, none⟩ = some (.slice ra rl.length rc) := (hst.out.bel.cell (p := ⟨b, off + i, none⟩) hlt).trans (by have := hc i _ HG.out 0 _ rfl; simpa using this)
      have hrl60 : rl.length ≤ R.flatten.length := by
        have h2 := upto_le (R := R) i rl.length
        unfold upto at h2
        rw [List.getD_eq_getElem?_getD, HRI.out, Option.getD_some, List.take_length, List.length_append] at h2
        omega
      clear he hc HS0 hir
      go_wp2
      go_loopw [28] (fun x wr => ∃ k : Nat, k ≤ rl.length ∧ x = .int .i64 k ∧ Hid (Sm W W.heap.size R i k wr)) (fun x _ => rl.length - (intOf x).toNat)
      case atStart => exact ⟨0, Nat.zero_le _, rfl, hst⟩
      case round =>
        obtain ⟨k, hk, rfl, hs2⟩ := hrel
        clear hst c0
        by_cases hkl : k < rl.length
        · have i3 : (k : Int) < (rl.length : Int) := by omega
          have HE : Hid (rl[k]? = some rl[k]) := List.getElem?_eq_getElem hkl
          have hok := HOL.out rl[k] (List.getElem_mem hkl)
          obtain ⟨⟨pk, pv, pg⟩, hpe⟩ : ∃ e, rl[k] = e := ⟨_, rfl⟩
          rw [hpe] at HE hok
          have hpk : pk.size ≤ 100 := hok.2.1
          obtain ⟨qb, qo, rfl, hqlt, hqc⟩ := HRR.out.resolve_left (by rintro h0; rw [h0] at hkl; simp at hkl)
          have go : ∀ (o : Nat) (v : Value), W.cell? ⟨qb, o, none⟩ = some v → wr.cell? ⟨qb, o, none⟩ = some v := fun o v hv => (hs2.out.bel.cell (p := ⟨qb, o, none⟩) hqlt).trans hv
          have p0 := go _ _ (hqc k _ HE.out 0 _ rfl)
          have p1 := go _ _ (hqc k _ HE.out 1 _ rfl)
          have p2 := go _ _ (hqc k _ HE.out 2 _ rfl)
          rw [Nat.add_zero] at p0
          obtain ⟨n, hn, hown⟩ := hs2.out.mp
          have hnl : n < maxLen := by have := upto_le (R := R) i k; unfold maxLen; omega
          have hB := hs2.out.bel
          have hBs := hB.size
          have hownX := hown.alloc (.cells #[.string pk, .string pv, .bool pg] 61)
          have hBX : Below W.heap.size W (wr.alloc (.cells #[.string pk, .string pv, .bool pg] 61)) := hB.alloc hBs _
          have hkey : keyOf Tryz.prog 9 (.string pk) = some (kl pk) := WideMaps.keyOf_string_mk Tryz.underlying9 (by unfold maxLen; omega)
          obtain ⟨w1, hrun, hown1, hgr⟩ := hownX.update hkd Tryz.underlying82 hnl hkey (rd_mk pk pv pg)
          have HN : Hid (Sm W W.heap.size R i (k + 1) w1) := by
            refine ⟨hBX.grown hgr hBX.size (fun j hj => by have := Option.some.inj hj; omega), n + 1, ?_, ?_⟩
            · rw [upto_next HRI.out HE.out, List.length_append, List.length_singleton]; omega
            · rw [upto_next HRI.out HE.out, ev_app, ← dm_put (ev_asc _)]
              exact hown1
          clear hpe hqc go hs2 hown hownX hown1 hgr hB hBX hkey hok
          go_wp2
          go_roundw
          case rel => exact ⟨k + 1, by omega, by go_num, HN⟩
          case measure => simp [intOf]; omega
        · obtain rfl : k = rl.length := by omega
          have HN : Hid (Sm W W.heap.size R (i + 1) 0 wr) := by
            obtain ⟨h1, h2⟩ := hs2.out
            rw [upto_row HRI.out] at h2
            exact ⟨h1, h2⟩
          clear hs2
          go_wp2
          go_roundw
          case rel => exact ⟨i + 1, by omega, by go_num, HN⟩
          case measure => simp [intOf]; omega
    · obtain rfl : i = R.length := by omega
      obtain ⟨h1, n, hn, hown⟩ := hst.out
      rw [upto_all] at hn hown
      have hln : (ev R.flatten).length ≤ 200000 := by have := ev_len R.flatten; omega
      have hkc := itl.keys_call (some W.heap.size) wr
      have hsc := itl.sorted_call W.heap.size n (dm (ev R.flatten)) rd wr hown (by rw [dm_size]; unfold maxLen; omega) (by rw [dm_size]; omega)
      have HOWN : Hid (wr.ownsMap Tryz.prog 9 rd W.heap.size n (dm (ev R.flatten))) := hown
      have hb2 : Below w.heap.size w wr := hBW.trans (h1.mono hBW.size)
      have hal2 : Below wr.heap.size wr (wr.alloc (.cells #[.map (some W.heap.size)] 82)) := (Below.refl _ _).alloc (Nat.le_refl _) _
      clear hst HS0 hown
      go_wp2_with (go_at_call 47; fail)
      refine hkc.mono ?_
      rintro e w4 ⟨rfl, rfl⟩
      clear hkc
      go_wp2_with (go_at_call 46; fail)
      refine hsc.mono ?_
      rintro e w5 ⟨v5, ss, rfl, hp5, ho5, _, hb5⟩
      clear hsc
      rw [dm_keys] at hp5
      obtain ⟨L, hL⟩ : ∃ L, ev R.flatten = L := ⟨_, rfl⟩
      have HA : Hid (mgp.Asc L) := hL ▸ ev_asc R.flatten
      rw [sorted_keys (ev_asc R.flatten) hp5, hp5.length_eq, hL] at ho5
      rw [keys_cells, show (bts L).length = L.length by unfold bts; rw [List.length_map]] at ho5
      obtain ⟨ka, kc, rfl, hkr⟩ := own_row cT_len ho5
      have HKR : Hid (Row cT 1 w5 w5.heap.size ka L) := hkr
      have hb15 : Below wr.heap.size wr w5 := hal2.trans (hb5.mono hal2.size)
      have HM5 : Hid (w5.ownsMap Tryz.prog 9 rd W.heap.size n (dm L)) := by rw [← hL]; exact own_map HOWN.out hb15
      have HOE : Hid (∀ e ∈ L, bo.okP e) := by
        unfold Hid
        rw [← hL]
        exact ev_ok (fun e he => by obtain ⟨l, hl, hel⟩ := List.mem_flatten.1 he; exact HOK.out l hl e hel)
      rw [hL] at hln
      have hbw5 : Below w.heap.size w w5 := hb2.trans (hb15.mono hb2.size)
      have HS5 : Hid (S5 w5 L 0 (.slice none 0 0) w5) := ⟨Below.refl _ _, World.ownsRow_nil w5 w5.heap.size _ 3⟩
      have HRP : Hid (rep s = L.filter kp) := by unfold Hid; rw [HRep.out, hL]
      clear ho5 hkr hb15 hp5 hb5 hal2 HOWN hL HRep
      obtain ⟨i0, hif, hz0, hz1, hz2⟩ := sct.infoP
      go_wp2
      go_loopw [10, 42] (fun v x wr => ∃ k : Nat, k ≤ L.length ∧ x = .int .i64 k ∧ Hid (S5 w5 L k v wr)) (fun _ x _ => L.length - (intOf x).toNat)
      case atStart => exact ⟨0, Nat.zero_le _, rfl, HS5⟩
      case round =>
        obtain ⟨k, hk, rfl, hst⟩ := hrel
        clear HS5
        by_cases hkl : k < L.length
        · obtain ⟨s1, s2⟩ := hst.out
          have s6 := s1.size
          have i2 : (k : Int) < (L.length : Int) := by omega
          have HG : Hid (L[k]? = some L[k]) := List.getElem?_eq_getElem hkl
          have hlk := look (own_map HM5.out s1) HA.out (List.getElem_mem hkl) (HOE.out L[k] (List.getElem_mem hkl)).2.1
          obtain ⟨⟨pk, pv, pg⟩, he⟩ : ∃ e, L[k] = e := ⟨_, rfl⟩
          rw [he] at HG hlk
          obtain ⟨b, off, rfl, hlt, hc⟩ := HKR.out.resolve_left (by rintro rfl; simp at hkl)
          have c0 : wr.cell? ⟨b, off + k, none⟩ = some (.string pk) := (s1.cell (p := ⟨b, off + k, none⟩) hlt).trans (by have := hc k _ HG.out 0 _ rfl; simpa using this)
          have hlen : ((L.take k).filter kp).length ≤ 200000 := by have := List.length_filter_le kp (L.take k); rw [List.length_take] at this; omega
          have hal5 : Below wr.heap.size wr (wr.alloc (.cells #[.string pk, .string pv, .bool pg] 61)) := (Below.refl _ _).alloc (Nat.le_refl _) _
          have hsa : Below w5.heap.size w5 (wr.alloc (.cells #[.string pk, .string pv, .bool pg] 61)) := s1.trans (hal5.mono s6)
          have s2a := gbs.own_on s2 hal5
          clear he hc
          cases pg with
          | true =>
            have HN : Hid ((L.take (k + 1)).filter kp = (L.take k).filter kp) := nx_no HG.out rfl
            have hst2 : Hid (S5 w5 L (k + 1) u10 (wr.alloc (.cells #[.string pk, .string pv, .bool true] 61))) := by
              unfold Hid S5
              rw [HN.out]
              exact ⟨hsa, s2a⟩
            clear hst s1 s2 s2a hsa hal5
            go_wp2
            go_roundw
            case rel => exact ⟨k + 1, by omega, by go_num, hst2⟩
            case measure => simp [intOf]; omega
          | false =>
            have HN : Hid ((L.take (k + 1)).filter kp = (L.take k).filter kp ++ [⟨pk, pv, false⟩]) := nx_yes HG.out rfl
            obtain ⟨X, hX⟩ : ∃ X, wr.alloc (.cells #[.string pk, .string pv, .bool false] 61) = X := ⟨_, rfl⟩
            have hXs : X.heap.size = wr.heap.size + 1 := by rw [← hX]; simp
            rw [hX] at hsa s2a
            have hal6 : Below X.heap.size X (X.alloc (.cells #[.string pk, .string pv, .bool false] 61)) := (Below.refl _ _).alloc (Nat.le_refl _) _
            have hsb : Below w5.heap.size w5 (X.alloc (.cells #[.string pk, .string pv, .bool false] 61)) := hsa.trans (hal6.mono hsa.size)
            obtain ⟨v', Y4, hr, ho, hg, _, hat⟩ := run_append_own_at (P := Tryz.prog) (X.alloc (.cells #[.string pk, .string pv, .bool false] 61)) w5.heap.size 28 28 61 i0 (.agg #[.string ByteArray.empty, .string ByteArray.empty, .bool false]) 3 40 Tryz.underlying28 hif hz0 hz1 hz2 rfl (by decide) u10 _ _ (gbs.own_on s2a hal6) ⟨X.heap.size, 0, none⟩ 1 1 [.string pk, .string pv, .bool false] rfl (fun j u hu => by rw [sct.add0]; exact bcell (bnew X _ _) (by simpa using hu)) (by intro u hu; simp at hu; rcases hu with rfl | rfl | rfl <;> rfl) (by unfold maxLen; omega) (by omega) hsb.size
            have hst2 : Hid (S5 w5 L (k + 1) v' Y4) := by
              unfold Hid S5
              rw [HN.out, List.length_append, List.flatMap_append]
              exact ⟨hsb.grown hg hsb.size (fun b hb => (s2a.lt b hb).1), by simpa [flP.c] using ho⟩
            rw [hXs, ← hX] at hr
            clear ho hg hal5 hst hat s1 s2 s2a hsa hsb hal6 hX hXs
            go_wp2_with (at_builtin; refine cpr.wpList_append_run rfl _ _ _ _ rfl _ _ _ rfl rfl hr ?_)
            go_roundw
            case rel => exact ⟨k + 1, by omega, by go_num, hst2⟩
            case measure => simp [intOf]; omega
        · obtain rfl : k = L.length := by omega
          have HFN : Hid (∃ v, Ending.returned u10 = .returned v ∧ wr.ownsRow w.heap.size 61 3 v (rep s).length ((rep s).flatMap flP.c) ∧ Below w.heap.size w wr) := by
            unfold Hid
            have h2 := hst.out.2
            rw [List.take_length] at h2
            rw [HRP.out]
            exact ⟨u10, rfl, sct.own_low h2 hbw5.size, hbw5.trans (hst.out.1.mono hbw5.size)⟩
          clear hst
          go_wp2
          go_ret
          exact HFN.out
end Go.Proofs.YtoemkbooomgieaaGreatDoor.rpi

/- StoreOk: the specification and the program tell the same of a store. -/
namespace Go.Proofs.YtoemkbooomgieaaGreatDoor.sok
open Go.ChangeShapes Go.WideShapes Go.ChangeAt Go.RowKit Go.Proofs.YtoemkbooomgieaaGreatDoor.fl Go.Proofs.YtoemkbooomgieaaGreatDoor.rn Go.Proofs.YtoemkbooomgieaaGreatDoor.sci Go.Proofs.YtoemkbooomgieaaGreatDoor.tk Go.Proofs.YtoemkbooomgieaaGreatDoor.tko Go.Proofs.YtoemkbooomgieaaGreatDoor.sam Go.Proofs.YtoemkbooomgieaaGreatDoor.rcp Go.Proofs.YtoemkbooomgieaaGreatDoor.rcm Go.Proofs.YtoemkbooomgieaaGreatDoor.rpp Go.Proofs.YtoemkbooomgieaaGreatDoor.rcI
set_option linter.unusedVariables false

noncomputable def all0 (ys : List flP.Pr) (R : List (List flP.Pr)) : List flP.Pr := scan ys R ⟨#[]⟩ ⟨#[]⟩
noncomputable def okS (ys : List flP.Pr) (R : List (List flP.Pr)) (lg : ByteArray) (sf : Int) : Bool :=
  okB ys R && (decide (0 ≤ sf ∧ sf ≤ lg.size) && (decide ((recs lg).2 = lg.size) && (decide ((all0 ys R).length ≤ 300) && sameL (rep lg) (all0 ys R))))
theorem okS_1 {ys : List flP.Pr} {R : List (List flP.Pr)} {lg : ByteArray} {sf : Int} (h : okB ys R = false) : okS ys R lg sf = false := by unfold okS; rw [h]; rfl
theorem okS_2 {ys : List flP.Pr} {R : List (List flP.Pr)} {lg : ByteArray} {sf : Int} (h : ¬ (0 ≤ sf ∧ sf ≤ lg.size)) : okS ys R lg sf = false := by unfold okS; rw [decide_eq_false h]; simp
theorem okS_3 {ys : List flP.Pr} {R : List (List flP.Pr)} {lg : ByteArray} {sf : Int} (h : (recs lg).2 ≠ lg.size) : okS ys R lg sf = false := by unfold okS; rw [decide_eq_false h]; simp
theorem okS_4 {ys : List flP.Pr} {R : List (List flP.Pr)} {lg : ByteArray} {sf : Int} (h : ¬ (all0 ys R).length ≤ 300) : okS ys R lg sf = false := by unfold okS; rw [decide_eq_false h]; simp
theorem okS_5 {ys : List flP.Pr} {R : List (List flP.Pr)} {lg : ByteArray} {sf : Int} (h1 : okB ys R = true) (h2 : 0 ≤ sf ∧ sf ≤ lg.size) (h3 : (recs lg).2 = lg.size) (h4 : (all0 ys R).length ≤ 300) : okS ys R lg sf = sameL (rep lg) (all0 ys R) := by unfold okS; rw [h1, decide_eq_true h2, decide_eq_true h3, decide_eq_true h4]; rfl
theorem okS_6 {ys : List flP.Pr} {R : List (List flP.Pr)} {lg : ByteArray} {sf : Int} (h : ¬ (rep lg).length ≤ 300) : okS ys R lg sf = false := by
  by_cases h4 : (all0 ys R).length ≤ 300
  · have h5 : sameL (rep lg) (all0 ys R) = false := sameL_no (fun e => h (by rw [e]; exact h4))
    unfold okS
    rw [h5]
    simp
  · exact okS_4 h4
theorem okS_7 {ys : List flP.Pr} {R : List (List flP.Pr)} {lg : ByteArray} {sf : Int} (h1 : okB ys R = true) (h2 : 0 ≤ sf ∧ sf ≤ lg.size) (h3 : (recs lg).2 = lg.size) (h4 : (rep lg).length ≤ 300) : okS ys R lg sf = sameL (rep lg) (all0 ys R) := by
  by_cases h5 : (all0 ys R).length ≤ 300
  · exact okS_5 h1 h2 h3 h5
  · rw [okS_4 h5]
    exact (sameL_no (fun e => h5 (by rw [← e]; exact h4))).symm

set_option maxRecDepth 100000 in
set_option maxHeartbeats 4000000 in
theorem impl_ok (ys : List flP.Pr) (rs : List Rn) (ya ra : Option Addr) (q : Addr) (yc rc : Nat) (hRQ0 : Hid (apa.NQ ra q rs.length rc)) (lg : ByteArray) (sf : Int) (w : World) (F : tb.Fit ys rs) (hlg : lg.size ≤ 1048576) (hsf : (Lit.int .i64 sf).wf = true) (hT : TB w) (hyc : ys.length ≤ yc) (hrc : ∀ r ∈ rs, r.l.length ≤ r.c) (hY : Row flP.c 3 w w.heap.size ya ys) (hR : VR w w.heap.size ra rs) :
    Calls Tryz.prog 12 #[.agg #[.slice ya ys.length yc, .slice ra rs.length rc, .string lg, .int .i64 sf]] w fun r w' => r = .returned (.bool (okS ys (rs.map (·.l)) lg sf)) ∧ Below w.heap.size w w' := by
  have hb : Below w.heap.size w (w.alloc (.cells #[.slice ya ys.length yc, .slice ra rs.length rc, .string lg, .int .i64 sf] 32)) := (Below.refl _ _).alloc (Nat.le_refl _) _
  have hA := bnew w #[.slice ya ys.length yc, .slice ra rs.length rc, .string lg, .int .i64 sf] 32
  obtain ⟨W, hW⟩ : ∃ W, w.alloc (.cells #[.slice ya ys.length yc, .slice ra rs.length rc, .string lg, .int .i64 sf] 32) = W := ⟨_, rfl⟩
  rw [hW] at hb hA
  have hlt := (Array.getElem?_eq_some_iff.1 hA).1
  have hok := tko.impl_okb ys rs ya ra yc rc W F (hY.inn hb) (hR.inn hb)
  have HY : Hid (Row flP.c 3 W W.heap.size ya ys) := hY.inn hb
  have HR : Hid (VR W W.heap.size ra rs) := hR.inn hb
  have HF : Hid (tb.Fit ys rs) := F
  have HT : Hid (TB W) := hT.on hb
  have HRC : Hid (∀ r ∈ rs, r.l.length ≤ r.c) := hrc
  have BX : Hid (∀ w', Below W.heap.size W w' → w'.cell? ⟨w.heap.size, 0, none⟩ = some (.slice ya ys.length yc) ∧ w'.cell? ⟨w.heap.size, 1, none⟩ = some (.slice ra rs.length rc) ∧ w'.cell? ⟨w.heap.size, 2, none⟩ = some (.string lg) ∧ w'.cell? ⟨w.heap.size, 3, none⟩ = some (.int .i64 sf)) := fun w' h => by
    have h1 := bstay hA h hlt
    exact ⟨bcell h1 rfl, bcell h1 rfl, bcell h1 rfl, bcell h1 rfl⟩
  obtain ⟨c0, c1, c2, c3⟩ := BX.out W (Below.refl _ _)
  obtain ⟨R, hRl⟩ : ∃ R, rs.map (·.l) = R := ⟨_, rfl⟩
  have HRL : Hid (rs.map (·.l) = R) := hRl
  rw [hRl] at hok ⊢
  obtain ⟨ok, hok1⟩ : ∃ ok, okB ys R = ok := ⟨_, rfl⟩
  have HOK : Hid (okB ys R = ok) := hok1
  rw [hok1] at hok
  obtain ⟨an, han⟩ : ∃ an, okS ys R lg sf = an := ⟨_, rfl⟩
  have HAN : Hid (okS ys R lg sf = an) := han
  rw [han]
  clear hY hR hA hRl hok1 F hT hrc han
  go_enter Tryz.func12, Tryz.ntmps12
  go_wp2_with (go_at_call 26; fail)
  clear hW
  refine hok.mono ?_
  rintro e w1 ⟨rfl, hb1⟩
  obtain ⟨d0, d1, d2, d3⟩ := BX.out w1 hb1
  have hB1 : Below w.heap.size w w1 := hb.trans (hb1.mono hb.size)
  clear hok c0 c1 c2 c3
  cases ok with
  | false =>
    obtain rfl : an = false := HAN.out.symm.trans (okS_1 HOK.out)
    go_wp2
    go_ret
    exact ⟨rfl, hB1⟩
  | true =>
    by_cases hs0 : sf < 0
    · obtain rfl : an = false := HAN.out.symm.trans (okS_2 (by omega))
      go_wp2
      go_ret
      exact ⟨rfl, hB1⟩
    by_cases hs1 : (lg.size : Int) < sf
    · obtain rfl : an = false := HAN.out.symm.trans (okS_2 (by omega))
      go_wp2
      go_ret
      exact ⟨rfl, hB1⟩
    have hrc := impl_recs lg w1 hlg (HT.out.on hb1)
    go_wp2_with (go_at_call 14; fail)
    refine hrc.mono ?_
    rintro e w3 ⟨v3, rfl, _, _, hro⟩
    have hb13 := hro.bel
    have hB13 : Below W.heap.size W w3 := hb1.trans (hb13.mono hb1.size)
    have hBw3 : Below w.heap.size w w3 := hb.trans (hB13.mono hb.size)
    clear hrc hro hb13 d0 d1 d2 d3
    obtain ⟨d0, d1, d2, d3⟩ := BX.out w3 hB13
    by_cases h3 : (recs lg).2 = (lg.size : Int)
    case neg =>
      obtain rfl : an = false := HAN.out.symm.trans (okS_3 h3)
      obtain ⟨z, hz⟩ : ∃ z, (recs lg).2 = z := ⟨_, rfl⟩
      rw [hz] at h3 ⊢
      clear hz
      go_wp2
      go_ret
      exact ⟨rfl, hBw3⟩
    have H3 : Hid ((recs lg).2 = (lg.size : Int)) := h3
    rw [h3]
    have hrp := rpi.impl_replay lg w3 hlg (HT.out.on hB13)
    obtain ⟨rp, hrpe⟩ : ∃ rp, rep lg = rp := ⟨_, rfl⟩
    have HRP : Hid (rep lg = rp) := hrpe
    rw [hrpe] at hrp
    clear h3 hrpe
    go_wp2_with (go_at_call 27; fail)
    refine hrp.mono ?_
    rintro e w4 ⟨v4, rfl, ho4, hb4⟩
    have hlm := len_of ho4
    have hlm' : rp.length ≤ 9223372036854775807 := hlm
    obtain ⟨aa, ac, rfl, hra⟩ := own_row flP.c_len ho4
    have hB4 : Below w.heap.size w w4 := hBw3.trans (hb4.mono hBw3.size)
    have hB14 : Below W.heap.size W w4 := hB13.trans (hb4.mono hB13.size)
    clear hrp ho4 d0 d1 d2 d3
    obtain ⟨e0, e1, e2, e3⟩ := BX.out w4 hB14
    by_cases h4 : rp.length ≤ 300
    case neg =>
      obtain rfl : an = false := HAN.out.symm.trans (okS_6 (by rw [HRP.out]; exact h4))
      have h4' : ¬ ((rp.length : Int) ≤ 300) := by omega
      go_wp2
      go_ret
      exact ⟨rfl, hB4⟩
    have h4' : (rp.length : Int) ≤ 300 := by omega
    have HAN2 : Hid (sameL rp (all0 ys R) = an) := by unfold Hid; rw [← HRP.out, ← okS_7 HOK.out (by omega) H3.out (by rw [HRP.out]; exact h4)]; exact HAN.out
    have HRA : Hid (Row flP.c 3 w4 w4.heap.size aa rp) := hra
    have hal := sal.impl_all ys rs ya ra q yc rc hRQ0.out lg sf w4 HF.out hyc HRC.out (HY.out.inn hB14) (HR.out.inn hB14)
    rw [HRL.out] at hal
    have hal' : Calls Tryz.prog 6 #[.agg #[.slice ya ys.length yc, .slice ra rs.length rc, .string lg, .int .i64 sf]] w4 fun r w' => ∃ v, r = .returned v ∧ (all0 ys R).length ≤ 6000 ∧ w'.ownsRow w4.heap.size 61 3 v (all0 ys R).length ((all0 ys R).flatMap flP.c) ∧ Below w4.heap.size w4 w' := hal
    obtain ⟨al, hale⟩ : ∃ al, all0 ys R = al := ⟨_, rfl⟩
    rw [hale] at hal'
    have HAL : Hid (all0 ys R = al) := hale
    clear hal hale hra
    go_wp2_with (go_at_call 6; fail)
    refine hal'.mono ?_
    rintro e w5 ⟨v5, rfl, _, ho5, hb5⟩
    have hlr := len_of ho5
    obtain ⟨ba, bc, rfl, hrb⟩ := own_row flP.c_len ho5
    have hsm := impl_same rp al aa ba ac bc w5 hlm hlr (HRA.out.inn hb5) hrb
    have hB5 : Below w.heap.size w w5 := hB4.trans (hb5.mono hB4.size)
    have hsme : sameL rp al = an := by rw [← HAL.out]; exact HAN2.out
    rw [hsme] at hsm
    clear hal' ho5 hrb hsme
    go_wp2_with (go_at_call 28; fail)
    refine hsm.mono ?_
    rintro e w6 ⟨rfl, hb6⟩
    have hB6 : Below w.heap.size w w6 := hB5.trans (hb6.mono hB5.size)
    clear hsm
    go_wp2
    go_ret
    exact ⟨rfl, hB6⟩
end Go.Proofs.YtoemkbooomgieaaGreatDoor.sok
