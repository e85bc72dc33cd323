/- slices.Sorted(maps.Keys(m)), laid by the kit's own program at the seat YtlgcciaebkfnjaaGreatDoor, in plain words: its numbers are that seat's (layiter.py lays it anew for another). -/
import Derived.Test.YtlgcciaebkfnjaaGreatDoorSq01
import Derived.Test.YtlgcciaebkfnjaaGreatDoorRecSpec
import Derived.Shelf.SlGeneric
import Derived.Shelf.SlIter.Nil
import Derived.Shelf.SortM.Plain
import Derived.Shelf.SortM.SortNone
import Derived.Ground.GgzProg
import Derived.Ground.SlgmProg
import Derived.Test.YtlgcciaebkfnjaaGreatDoorRows

/- The program's GetBatch: the loop, and the answer. -/
namespace Go.Proofs.YtlgcciaebkfnjaaGreatDoor.gim
open Go.ChangeShapes Go.WideShapes Go.ChangeAt Go.RowKit Go.Proofs.YtlgcciaebkfnjaaGreatDoor.fl Go.Proofs.YtlgcciaebkfnjaaGreatDoor.fo Go.Proofs.YtlgcciaebkfnjaaGreatDoor.gbp Go.Proofs.YtlgcciaebkfnjaaGreatDoor.brd Go.Proofs.YtlgcciaebkfnjaaGreatDoor.asf
set_option linter.unusedVariables false
theorem row_at {W W1 : World} {B b m n : Nat} {T : TypeId} {v : Value} {xs : List Value} (h : W.ownsRow B T m v n xs) (hB : b < B) (ht : Tn W W1 (fun a => a = b)) : W1.ownsRow B T m v n xs := by
  refine h.kept (row := some b) ⟨ht.os, ht.tape, ht.output, ht.size, fun a ha hne => ht.block a ha (fun hc => hne (by rw [hc]))⟩ ?_
  cases hv : v.ownBlock with
  | none => exact .inl rfl
  | some g =>
    refine .inr (fun hc => ?_)
    have := (h.lt g hv).1
    injection hc with hc
    omega
theorem sb_done {w W : World} {v : Value} {m n : Nat} {T : TypeId} {xs : List Value} (h : Sb w v W) (hr : W.ownsRow (w.heap.size + 1 + 1 + 1) T m v n xs) :
    ((W.setCell ⟨w.heap.size, 0, none⟩ v).setCell ⟨w.heap.size + 1, 0, none⟩ (.bool true)).cell? ⟨w.heap.size, 0, none⟩ = some v ∧
    ((W.setCell ⟨w.heap.size, 0, none⟩ v).setCell ⟨w.heap.size + 1, 0, none⟩ (.bool true)).cell? ⟨w.heap.size + 1, 0, none⟩ = some (.bool true) ∧
    Below w.heap.size w ((W.setCell ⟨w.heap.size, 0, none⟩ v).setCell ⟨w.heap.size + 1, 0, none⟩ (.bool true)) ∧
    ((W.setCell ⟨w.heap.size, 0, none⟩ v).setCell ⟨w.heap.size + 1, 0, none⟩ (.bool true)).ownsRow w.heap.size T m v n xs := by
  have b2 := bset h.b 0 v
  have o2 : (W.setCell ⟨w.heap.size, 0, none⟩ v).heap[w.heap.size + 1]? = some (.cells #[.bool false] 4 (0, 0)) := by
    rw [Below.heap_setCell _ _ _ _ (by simp)]
    exact h.o
  have o3 := bset o2 0 (.bool true)
  have b3 : ((W.setCell ⟨w.heap.size, 0, none⟩ v).setCell ⟨w.heap.size + 1, 0, none⟩ (.bool true)).heap[w.heap.size]? = some (.cells #[v] 24 (0, 0)) := by
    rw [Below.heap_setCell _ _ _ _ (by simp)]
    exact b2
  refine ⟨bcell b3 rfl, bcell o3 rfl, (h.bel.setCell (Nat.le_refl _) _).setCell (Nat.le_succ _) _, ?_⟩
  have t1 : Tn W (W.setCell ⟨w.heap.size, 0, none⟩ v) (fun a => a = w.heap.size) := Tn.set (Tn.refl W (fun a => a = w.heap.size)) (S := fun a => a = w.heap.size) rfl 0 v
  have t2 : Tn (W.setCell ⟨w.heap.size, 0, none⟩ v) ((W.setCell ⟨w.heap.size, 0, none⟩ v).setCell ⟨w.heap.size + 1, 0, none⟩ (.bool true)) (fun a => a = w.heap.size + 1) := Tn.set (Tn.refl _ (fun a => a = w.heap.size + 1)) (S := fun a => a = w.heap.size + 1) rfl 0 _
  have r2 := row_at (b := w.heap.size + 1) (row_at (b := w.heap.size) hr (by omega) t1) (by omega) t2
  refine ⟨r2.1, ?_⟩
  rcases r2.2 with h0 | ⟨g, c, cur, e1, e2, e3⟩
  · exact .inl h0
  · exact .inr ⟨g, c, cur, e1, by omega, e3⟩
theorem got_stop {s : ByteArray} {n k : Nat} {i : Int} {l : List flP.Pr} (hN : (gi.num s 0 1).toNat = n) (hL : gbp.Left s n l (n - k) i) (hk : k < n) (hbad : ¬ ∃ p j, stp s i = some (p, j) ∧ bo.okP p) : got s = none := by
  rw [show n - k = (n - k - 1) + 1 by omega] at hL
  cases hst : stp s i with
  | none => exact gbs.got_bad2 (by rw [hN]; exact left_no hL hst)
  | some x =>
    obtain ⟨p, j⟩ := x
    have hno : ¬ bo.okP p := fun h => hbad ⟨p, j, hst, h⟩
    have h1 := left_yes hL hst
    unfold gbp.Left at h1
    cases hh : rn s (n - k - 1) j with
    | none =>
      rw [hh] at h1
      exact gbs.got_bad2 (by rw [hN]; exact h1)
    | some y =>
      obtain ⟨m, e⟩ := y
      rw [hh] at h1
      refine gbs.got_bad3 (by rw [hN]; exact h1) ?_
      have hf : bo.okb (l ++ [p] ++ m) = false := by
        cases h : bo.okb (l ++ [p] ++ m) with
        | false => rfl
        | true => exact absurd (((bo.okb_iff _).1 h).2 l.length p (by simp)) hno
      rw [hf]
      simp
set_option maxRecDepth 100000 in
set_option maxHeartbeats 1000000 in
theorem impl_run (s : ByteArray) (w : World) (hs : s.size ≤ 1048576) (hg : ET w) (ha : gi.okAt s 0 1 = true) (n : Nat) (hn : gi.num s 0 1 = n) (hn60 : n ≤ 60) :
    Calls Tryz.prog 130 #[.string s] w fun e w' => ∃ v, e = .returned (.tuple #[v, .bool (gotB s)]) ∧ w'.ownsRow w.heap.size 49 3 v (gotL s).length ((gotL s).flatMap flP.c) ∧ Below w.heap.size w w' := by
  have hmf : ∀ (fn : Fn) (first cap : Array Value) (w : World), (Instr.makeFunc fn first cap).run Tryz.prog w = .ok (.func fn first cap) w := fun _ _ _ _ => rfl
  have hc := number_run (w.heap.size + 1 + 1) s 0 60 (W0 s w) hs (rb_0 s w) (by omega) ha (by omega)
  rw [hn] at hc
  have hin := at_in ha
  have H0 : Hid ((gi.okAt s 0 1 && decide (gi.num s 0 1 ≤ 60)) = true) := by unfold Hid; rw [ha, hn]; simp; omega
  have HN : Hid ((gi.num s 0 1).toNat = n) := by unfold Hid; rw [hn]; rfl
  go_enter_defers Tryz.func130, Tryz.ntmps130
  go_wp2_with (go_at_call 165; fail)
  refine hc.mono ?_
  rintro e W ⟨rfl, hr, ht⟩
  have HS0 : Hid (Sr s w n 0 (0 + 1) [] (.slice none 0 0) W) := sr_0 ((sb_0 s w).tr ht) hr (by omega)
  clear hc ht hr hin ha hn
  go_wp2
  go_loopw [9] (fun x wr => ∃ (k : Nat) (i : Int) (l : List flP.Pr) (v : Value), k ≤ n ∧ x = .int .i64 k ∧ Hid (Sr s w n k i l v wr)) (fun x _ => n - (intOf x).toNat)
  case atStart => exact ⟨0, 0 + 1, [], _, Nat.zero_le _, rfl, HS0⟩
  case round =>
    obtain ⟨k, i, l, v, hk, rfl, hst⟩ := hrel
    clear HS0
    by_cases hkn : k < n
    · have i2 : (k : Int) < (n : Int) := by omega
      have c0 : wr.cell? ⟨w.heap.size, 0, none⟩ = some v := bcell hst.out.sb.b rfl
      have hpr := pair_run (w.heap.size + 1 + 1) s i wr.drew hs hst.out.rb hst.out.lo hst.out.hi
      by_cases hgood : ∃ p j, stp s i = some (p, j) ∧ bo.okP p
      · obtain ⟨p, j, hp, hok⟩ := hgood
        have hpr2 : Calls Tryz.prog 166 #[.pointer (some ⟨w.heap.size + 1 + 1, 0, none⟩)] wr.drew fun e w' => e = .returned (.agg #[.string p.k, .string p.v, .bool p.g]) ∧ RB w' (w.heap.size + 1 + 1) s j ∧ Tr (w.heap.size + 1 + 1) wr w' := by
          refine hpr.mono ?_
          rintro e w' (⟨p', j', h1, h2, h3, h4, h5⟩ | ⟨h1, h2, h3⟩)
          · rw [hp] at h1
            cases h1
            exact ⟨h3, h4, (tr_drew _ _).trans h5⟩
          · exact absurd hok (h1 p j hp)
        have HM : Hid (∀ w1, RB w1 (w.heap.size + 1 + 1) s j → Tr (w.heap.size + 1 + 1) wr w1 → ∃ (g cp : Nat) (Y : World), (Builtin.append_ #[24, 24] 24 #[v, .slice (some ⟨w1.heap.size, 0, none⟩) 1 1]).run Tryz.prog (w1.alloc (.cells #[.string p.k, .string p.v, .bool p.g] 49)) = .ok (.slice (some ⟨g, 0, none⟩) (l ++ [p]).length cp) Y ∧ Y.cell? ⟨w.heap.size, 0, none⟩ = some v ∧ Y.frozen? ⟨w.heap.size, 0, none⟩ = false ∧ w1.cell? ⟨w.heap.size, 0, none⟩ = some v ∧ (w1.alloc (.cells #[.string p.k, .string p.v, .bool p.g] 49)).cell? ⟨w.heap.size, 0, none⟩ = some v ∧ Hid (Sr s w n (k + 1) j (l ++ [p]) (.slice (some ⟨g, 0, none⟩) (l ++ [p]).length cp) (Y.setCell ⟨w.heap.size, 0, none⟩ (.slice (some ⟨g, 0, none⟩) (l ++ [p]).length cp)))) := by
          intro w1 h1 h2
          obtain ⟨v', Y, a1, a2, a3, a4⟩ := one_more hs hst.out hkn hn60 h2 h1 hp hok
          rcases a4.row.2 with ⟨e, h0⟩ | ⟨g, cap, cur, e, _⟩
          · simp at h0
          · subst e
            exact ⟨g, cap, Y, a1, a2, a3, bcell (hst.out.sb.tr h2).b rfl, bcell (bold (hst.out.sb.tr h2).b _) rfl, a4⟩
        clear hpr hst hp hok
        go_wp2
        go_region_with (go_at_call 166; refine hpr2.mono ?_; rintro e w1 ⟨rfl, hr1, ht1⟩; obtain ⟨g, cp, Y, hrun, y0, y1, c1, c2, HN1⟩ := HM.out w1 hr1 ht1; clear hr1 ht1; obtain ⟨ln, hln⟩ : ∃ ln, (l ++ [p]).length = ln := ⟨_, rfl⟩; rw [hln] at hrun HN1; clear hln; simp [go_sem] at hrun)
        all_goals go_wp2
        all_goals go_roundw
        all_goals first | exact ⟨k + 1, j, _, _, by omega, by go_num, HN1⟩ | (simp [intOf]; omega)
      · have hpr2 : Calls Tryz.prog 166 #[.pointer (some ⟨w.heap.size + 1 + 1, 0, none⟩)] wr.drew fun e w' => Pk e ∧ Tr (w.heap.size + 1 + 1) wr w' := by
          refine hpr.mono ?_
          rintro e w' (⟨p', j', h1, h2, h3, h4, h5⟩ | ⟨h1, h2, h3⟩)
          · exact absurd ⟨p', j', h1, h2⟩ hgood
          · exact ⟨h2, (tr_drew _ _).trans h3⟩
        clear hpr
        go_wp2
        have HG : Hid (gotL s = [] ∧ gotB s = false) := got_none (got_stop HN.out hst.out.left hkn hgood)
        have HL : Hid (∀ w1, Tr (w.heap.size + 1 + 1) wr w1 → Sb w v w1) := fun w1 h1 => hst.out.sb.tr h1
        refine wp_region_any (by kernel_rfl) ?_
        change wpAny _ _ _ _ _ _ _ (World.drew _)
        refine wpAny_ready (rs := [0, 1]) (by kernel_rfl) (by simp) ?_
        refine AllReady.cons rfl (fun K hK => ?_) ?_
        · go_simp
          refine hK _ _ ?_
          clear hK K
          refine wpAny_ready (rs := [1]) (by kernel_rfl) (by simp) ?_
          refine AllReady.cons rfl (fun K hK => ?_) AllReady.nil
          go_simp
          refine hpr2.mono ?_
          rintro e w1 ⟨⟨jj, rfl⟩, ht1⟩
          have hS := HL.out w1 ht1
          go_wp2
          refine leaves_cons (f := 163) (args := #[.pointer (some ⟨w.heap.size, 0, none⟩), .pointer (some ⟨w.heap.size + 1, 0, none⟩)]) (by simp) (by simp [go_sem]) ?_
          refine (catch_hit w.heap.size (w.heap.size + 1) jj _ _ w1 (hS.et hg) (bcell hS.b rfl) (bfree hS.b 0) (bcell hS.o rfl) (bfree hS.o 0) (by omega)).mono ?_
          rintro e u' w'' ⟨rfl, rfl, w2, hb, rfl⟩
          obtain ⟨h1, h2, h3⟩ := sb_left hS hb
          rw [HG.out.1, HG.out.2]
          simp [Leaves, settle, results, Tryz.results130, go_sem, h1, h2]
          exact ⟨World.ownsRow_nil _ _ _ _, h3⟩
        · refine AllReady.cons rfl (fun K hK => ?_) AllReady.nil
          go_simp
          refine hpr2.mono ?_
          rintro e w1 ⟨⟨jj, rfl⟩, ht1⟩
          have hS := HL.out w1 ht1
          go_wp2
          refine leaves_cons (f := 163) (args := #[.pointer (some ⟨w.heap.size, 0, none⟩), .pointer (some ⟨w.heap.size + 1, 0, none⟩)]) (by simp) (by simp [go_sem]) ?_
          refine (catch_hit w.heap.size (w.heap.size + 1) jj _ _ w1 (hS.et hg) (bcell hS.b rfl) (bfree hS.b 0) (bcell hS.o rfl) (bfree hS.o 0) (by omega)).mono ?_
          rintro e u' w'' ⟨rfl, rfl, w2, hb, rfl⟩
          obtain ⟨h1, h2, h3⟩ := sb_left hS hb
          rw [HG.out.1, HG.out.2]
          simp [Leaves, settle, results, Tryz.results130, go_sem, h1, h2]
          exact ⟨World.ownsRow_nil _ _ _ _, h3⟩
    · obtain rfl : k = n := by omega
      have hrn := left_end (by have := hst.out.left; rw [Nat.sub_self] at this; exact this)
      by_cases he : i = (s.size : Int)
      · have HG : Hid (gotL s = l ∧ gotB s = true) := got_some (gbs.got_good H0.out (by rw [HN.out]; exact hrn) (by
          rw [(bo.okb_iff l).2 ⟨by have := hst.out.len; omega, fun a e h => hst.out.ok e (List.mem_of_getElem? h)⟩]
          simp [he]))
        have hen := end_run (w.heap.size + 1 + 1) s i wr hst.out.rb he
        obtain ⟨va, vc, hv⟩ : ∃ va vc, v = .slice va l.length vc := by
          rcases hst.out.row.2 with ⟨e, h0⟩ | ⟨g, cap, cur, e, _⟩
          · exact ⟨none, 0, by rw [e, h0]⟩
          · exact ⟨_, _, e⟩
        subst hv
        have HL : Hid (∀ w1, Tr (w.heap.size + 1 + 1) wr w1 → Sb w (.slice va l.length vc) w1 ∧ w1.ownsRow (w.heap.size + 1 + 1 + 1) 49 3 (.slice va l.length vc) l.length (l.flatMap flP.c)) := fun w1 h1 => ⟨hst.out.sb.tr h1, row_at hst.out.row (by omega) h1⟩
        clear hrn he hst
        go_wp2_with (go_at_call 167; fail)
        refine hen.mono ?_
        rintro e w1 ⟨rfl, ht1⟩
        have HS : Hid (Sb w (.slice va l.length vc) w1 ∧ w1.ownsRow (w.heap.size + 1 + 1 + 1) 49 3 (.slice va l.length vc) l.length (l.flatMap flP.c)) := HL.out w1 ht1
        clear hen HL ht1
        have b0 : w1.cell? ⟨w.heap.size, 0, none⟩ = some (.slice va l.length vc) := bcell HS.out.1.b rfl
        have b1 : w1.frozen? ⟨w.heap.size, 0, none⟩ = false := bfree HS.out.1.b 0
        have o0 : w1.cell? ⟨w.heap.size + 1, 0, none⟩ = some (.bool false) := bcell HS.out.1.o rfl
        have o1 : w1.frozen? ⟨w.heap.size + 1, 0, none⟩ = false := bfree HS.out.1.o 0
        go_wp2
        refine leaves_cons (f := 163) (args := #[.pointer (some ⟨w.heap.size, 0, none⟩), .pointer (some ⟨w.heap.size + 1, 0, none⟩)]) (by simp) (by simp [go_sem]) ?_
        refine (catch_idle ⟨w.heap.size, 0, none⟩ ⟨w.heap.size + 1, 0, none⟩ _).mono ?_
        rintro e u' w'' ⟨rfl, rfl, rfl⟩
        obtain ⟨h1, h2, h3, h4⟩ := sb_done HS.out.1 HS.out.2
        rw [HG.out.1, HG.out.2]
        simp only [Leaves, settle]
        refine ⟨.tuple #[.slice va l.length vc, .bool true], by simp [results, Tryz.results130, go_sem, h1, h2], _, rfl, h4, h3⟩
      · have HG : Hid (gotL s = [] ∧ gotB s = false) := got_none (gbs.got_bad3 (by rw [HN.out]; exact hrn) (by simp [he]))
        have hen := end_bad (w.heap.size + 1 + 1) s i wr hst.out.rb he
        go_wp2_with (go_at_call 167; fail)
        refine hen.mono ?_
        rintro e w1 ⟨⟨jj, rfl⟩, ht1⟩
        have hS := hst.out.sb.tr ht1
        go_wp2
        refine leaves_cons (f := 163) (args := #[.pointer (some ⟨w.heap.size, 0, none⟩), .pointer (some ⟨w.heap.size + 1, 0, none⟩)]) (by simp) (by simp [go_sem]) ?_
        refine (catch_hit w.heap.size (w.heap.size + 1) jj _ _ w1 (hS.et hg) (bcell hS.b rfl) (bfree hS.b 0) (bcell hS.o rfl) (bfree hS.o 0) (by omega)).mono ?_
        rintro e u' w'' ⟨rfl, rfl, w2, hb, rfl⟩
        obtain ⟨h1, h2, h3⟩ := sb_left hS hb
        rw [HG.out.1, HG.out.2]
        simp [Leaves, settle, results, Tryz.results130, go_sem, h1, h2]
        exact ⟨World.ownsRow_nil _ _ _ _, h3⟩

/-- the program's GetBatch, at every text -/
theorem impl_got (s : ByteArray) (w : World) (hs : s.size ≤ 1048576) (hg : ET w) :
    Calls Tryz.prog 130 #[.string s] w fun e w' => ∃ v, e = .returned (.tuple #[v, .bool (gotB s)]) ∧ w'.ownsRow w.heap.size 49 3 v (gotL s).length ((gotL s).flatMap flP.c) ∧ Below w.heap.size w w' := by
  cases hc : (gi.okAt s 0 1 && decide (gi.num s 0 1 ≤ 60)) with
  | false =>
    refine (impl_bad s w hs hg hc).mono ?_
    rintro e w' ⟨rfl, hb⟩
    have hG := got_none (gbs.got_bad1 hc)
    rw [hG.1, hG.2]
    exact ⟨_, rfl, World.ownsRow_nil _ _ _ _, hb⟩
  | true =>
    simp only [Bool.and_eq_true, decide_eq_true_eq] at hc
    have hin := at_in hc.1
    exact impl_run s w hs hg hc.1 (gi.num s 0 1).toNat (by omega) (by omega)
end Go.Proofs.YtlgcciaebkfnjaaGreatDoor.gim

/- The program's Records. -/
namespace Go.Proofs.YtlgcciaebkfnjaaGreatDoor.rcI
open Go.ChangeShapes Go.WideShapes Go.ChangeAt Go.RowKit Go.Proofs.YtlgcciaebkfnjaaGreatDoor.fl Go.Proofs.YtlgcciaebkfnjaaGreatDoor.fo Go.Proofs.YtlgcciaebkfnjaaGreatDoor.rn Go.Proofs.YtlgcciaebkfnjaaGreatDoor.mrR Go.Proofs.YtlgcciaebkfnjaaGreatDoor.gbp Go.Proofs.YtlgcciaebkfnjaaGreatDoor.rcp Go.Proofs.YtlgcciaebkfnjaaGreatDoor.rcm Go.Proofs.YtlgcciaebkfnjaaGreatDoor.rcS Go.Proofs.YtlgcciaebkfnjaaGreatDoor.asf
set_option linter.unusedVariables false

/-- what the program's tables hold: the sums' table, and the library's variable that errors.As reads -/
structure TB (w : World) : Prop where
  et : ET w
  tab : ∀ r, r < 16 → w.cell? ⟨0, r, none⟩ = some (.int .u32 (cs.tab r : Int))
theorem TB.lt {w : World} (h : TB w) : 1 < w.heap.size ∧ 0 < w.heap.size := by
  refine ⟨h.et.lt, ?_⟩
  have h2 := h.tab 0 (by decide)
  rcases Nat.lt_or_ge 0 w.heap.size with h3 | h3
  · exact h3
  · simp [World.cell?, Array.getElem?_eq_none h3] at h2
theorem TB.below {B : Nat} {w w' : World} (h : TB w) (hb : Below B w w') (hl : 1 < B ∧ 0 < B) : TB w' :=
  ⟨(hb.cell (p := ⟨1, 0, none⟩) hl.1).trans h.et, fun r hr => (hb.cell (p := ⟨0, r, none⟩) hl.2).trans (h.tab r hr)⟩
theorem TB.on {w w' : World} (h : TB w) (hb : Below w.heap.size w w') : TB w' := h.below hb h.lt

/-- what getRecord answers: the batch at a place and the place behind it, or -1 -/
def RP (s : ByteArray) (i : Int) (w : World) (e : Ending) (w' : World) : Prop := ∃ v, e = .returned (.tuple #[v, .int .i64 (if isR s i = true then nxt s i else -1)]) ∧ (isR s i = true → w'.ownsRow w.heap.size 49 3 v (bat s i).length ((bat s i).flatMap flP.c)) ∧ Below w.heap.size w w'
theorem low {W : World} {B B' n m : Nat} {T : TypeId} {v : Value} {xs : List Value} (h : W.ownsRow B T m v n xs) (hB : B' ≤ B) : W.ownsRow B' T m v n xs := by
  obtain ⟨h0, h1 | ⟨g, cap, cur, h1, h2, h3⟩⟩ := h
  · exact ⟨h0, .inl h1⟩
  · exact ⟨h0, .inr ⟨g, cap, cur, h1, Nat.le_trans hB h2, h3⟩⟩
set_option maxRecDepth 100000 in
set_option maxHeartbeats 2000000 in
theorem impl_rec (s : ByteArray) (i : Int) (w : World) (hs : s.size ≤ 1048576) (hlo : 0 ≤ i) (hhi : i ≤ s.size) (hT : TB w) :
    Calls Tryz.prog 90 #[.string s, .int .i64 i] w fun e w' => RP s i w e w' := by
  have HT : Hid (TB w) := hT
  have NO : Hid (isR s i = false → ∀ X, Below w.heap.size w X → RP s i w (.returned (.tuple #[.slice none 0 0, .int .i64 (-1)])) X) := fun h X hb => ⟨_, by rw [h]; rfl, fun h2 => by (rw [h] at h2; cases h2), hb⟩
  clear hT
  have hgi := gi.impl_get s i 4 w hs (by omega) (by omega)
  go_enter Tryz.func90, Tryz.ntmps90
  go_wp2_with (go_at_call 128; fail)
  refine hgi.mono ?_
  rintro e w1 ⟨rfl, hw1⟩
  obtain rfl := hw1.symm
  clear hgi
  cases ha : gi.okAt s i 4 with
  | false =>
    have h0 := gl.none s i ha
    rw [h0.1, h0.2]
    have hgl := gl.impl_getLong s (-1) w hs (by omega) (by omega)
    have h1 : gl.here s (-1) = false := by
      cases h : gl.here s (-1) with
      | false => rfl
      | true =>
        unfold gl.here at h
        simp only [Bool.and_eq_true] at h
        have := at4 h.1.1
        omega
    rw [long_no h1] at hgl
    go_wp2_with (go_at_call 129; fail)
    refine hgl.mono ?_
    rintro e w2 ⟨rfl, hb2⟩
    clear hgl
    have HF := NO.out (no_1 ha) w2 hb2
    go_wp2
    go_ret2
    exact HF
  | true =>
    have hA := at4 ha
    rw [stop4 ha]
    have hgl := gl.impl_getLong s (i + 4) w hs (by omega) (by omega)
    go_wp2_with (go_at_call 129; fail)
    refine hgl.mono ?_
    rintro e w2 ⟨rfl, hb2⟩
    clear hgl
    cases hh : gl.here s (i + 4) with
    | false =>
      rw [long_no hh]
      have HF := NO.out (no_2 hh) w2 hb2
      go_wp2
      go_ret2
      exact HF
    | true =>
      have hL := long_in hh
      have h5 : ¬ gl.behind s (i + 4) < 0 := by omega
      have hcs := cs.impl_sum (gl.text s (i + 4)) w2 (text_small hs).2 (HT.out.on hb2).tab
      have hsl := sum_lt (gl.text s (i + 4))
      go_wp2_with (go_at_call 115; fail)
      refine hcs.mono ?_
      rintro e w4 ⟨rfl, hw4⟩
      obtain rfl := hw4
      clear hcs
      by_cases he : gi.num s i 4 = (cs.sum (gl.text s (i + 4)) : Int)
      · have hgb := gim.impl_got (gl.text s (i + 4)) w2 (text_small hs).2 (HT.out.on hb2).et
        have hmw : wrap64 (cs.sum (gl.text s (i + 4)) : Int) = (cs.sum (gl.text s (i + 4)) : Int) := IntWalk.wrap64_in _ (by omega)
        rw [he]
        go_wp2_with (go_at_call 130; fail)
        refine hgb.mono ?_
        rintro e w3 ⟨vb, rfl, hrow, hb3⟩
        have hb13 : Below w.heap.size w w3 := hb2.trans (hb3.mono hb2.size)
        clear hgb
        cases hg : gotB (gl.text s (i + 4)) with
        | false =>
          have HF := NO.out (no_3 hg) w3 hb13
          go_wp2
          go_ret2
          exact HF
        | true =>
          have HY := yes ha hh hg he
          have HF : Hid (RP s i w (.returned (.tuple #[vb, .int .i64 (gl.behind s (i + 4))])) w3) := by
            refine ⟨vb, by rw [HY]; rfl, fun _ => ?_, hb13⟩
            exact low hrow hb2.size
          clear hrow HY
          go_wp2
          go_ret2
          exact HF.out
      · have HF := NO.out (no_4 he) w2 hb2
        obtain ⟨n4, hn4⟩ : ∃ n4, gi.num s i 4 = n4 := ⟨_, rfl⟩
        obtain ⟨m4, hm4⟩ : ∃ m4 : Int, (cs.sum (gl.text s (i + 4)) : Int) = m4 := ⟨_, rfl⟩
        rw [hn4] at he ⊢
        rw [hm4] at he ⊢
        have he2 : (m4 != n4) = true := by simpa using fun h => he h.symm
        have hmw : wrap64 m4 = m4 := IntWalk.wrap64_in m4 (by rw [← hm4]; omega)
        have he3 : (wrap64 m4 != n4) = true := by rw [hmw]; exact he2
        clear hn4 hm4 hsl hA
        go_wp2
        go_ret2
        exact HF

set_option maxRecDepth 100000 in
set_option maxHeartbeats 2000000 in
theorem impl_recs (s : ByteArray) (w : World) (hs : s.size ≤ 1048576) (hT : TB w) :
    Calls Tryz.prog 54 #[.string s] w fun e w' => ∃ v, e = .returned (.tuple #[v, .int .i64 (recs s).2]) ∧ ∃ rs : List Rn, rs.map (·.l) = (recs s).1 ∧ RO w w' v rs := by
  have HR0 : Hid (RO w w (.slice none 0 0) []) := ⟨Below.refl _ _, World.ownsRow_nil w w.heap.size _ 1, fun r hr => by (cases hr), fun i j r s hi => by simp at hi⟩
  by_cases hbig : 200000 < s.size
  · have b2 : (200000 : Int) < (s.size : Int) := by omega
    go_enter Tryz.func54, Tryz.ntmps54
    go_wp2
    go_ret2
    rw [recs_big hbig]
    exact ⟨_, rfl, [], rfl, HR0.out⟩
  have hs2 : s.size ≤ 200000 := by omega
  have b2 : ¬ (200000 : Int) < (s.size : Int) := by omega
  have HS0 : Hid (St s w 0 [] (.slice none 0 0) w) := ⟨HR0.out, left_0 s⟩
  have HT : Hid (TB w) := hT
  clear HR0 hbig hT
  go_enter Tryz.func54, Tryz.ntmps54
  go_wp2
  go_loopw [4, 5] (fun v y wr => ∃ (i : Int) (rs : List Rn), y = .int .i64 i ∧ Hid (St s w i rs v wr)) (fun _ y _ => s.size - (intOf y).toNat)
  case atStart => exact ⟨0, [], rfl, HS0⟩
  case round =>
    obtain ⟨i, rs, rfl, hst⟩ := hrel
    clear HS0
    obtain ⟨hlo, hhi⟩ := hst.out.lo
    have hlen := hst.out.len hs2
    have hrc := impl_rec s i wr hs hlo hhi (HT.out.on hst.out.ro.bel)
    go_wp2_with (go_at_call 90; fail)
    refine hrc.mono ?_
    rintro e w3 ⟨vb, rfl, hrow, hb13⟩
    clear hrc
    cases hr : isR s i with
    | false =>
      have HF := hst.out.fin hs2 hr hb13
      rw [if_neg (by decide)]
      go_wp2
      go_ret2
      exact HF
    | true =>
      rw [if_pos rfl]
      have HI := isR_in hr
      have h5 : ¬ nxt s i < 0 := by omega
      obtain ⟨ga, gc, rfl, hm⟩ := pmk.mine_of flP.c_len (hrow hr)
      obtain ⟨v', Y, hrun, hro⟩ := app_one (c := gc) hst.out.ro hb13 hm (by omega)
      have HN : Hid (St s w (nxt s i) (rs ++ [⟨ga, gc, bat s i⟩]) v' Y) := hst.out.next hr hro
      clear hm hro hrow hst hb13 hr
      go_wp2_with (at_builtin; refine cpr.wpList_append_run rfl _ _ _ _ rfl _ _ _ rfl rfl hrun ?_)
      go_roundw
      case rel => exact ⟨_, _, rfl, HN⟩
      case measure => simp [intOf]; omega
end Go.Proofs.YtlgcciaebkfnjaaGreatDoor.rcI

/- slices.Sorted(maps.Keys(m)), laid by the kit's own program at the seat YtlgcciaebkfnjaaGreatDoor, in plain words: its numbers are that seat's (layiter.py lays it anew for another). -/
namespace Go.Proofs.YtlgcciaebkfnjaaGreatDoor.itl
open Go.RowKit Go.Maps Go.Sort Go.Shelf
def keysL_ren : Go.Shelf.Ren := ⟨fun | 7 => 64 | 10 => 101 | n => n, fun | 23 => 89 | 26 => 9 | 3 => 49 | 28 => 93 | 0 => 0 | 27 => 92 | 33 => 130 | 4 => 4 | n => n, fun | n => n⟩
theorem keysL : Go.Proofs.SlLaysZ.n7 Tryz.prog keysL_ren := {
  mixed := by kernel_rfl
  f7 := ⟨Tryz.f64.name, by decide, Tryz.func64.trans (congrArg some (by kernel_rfl))⟩
  f10 := ⟨Tryz.f101.name, by decide, Tryz.func101.trans (congrArg some (by kernel_rfl))⟩
  t0 := Tryz.underlying0
  a0 := Tryz.isAgg0
  z0 := Tryz.sizeOf0
  v0 := Tryz.zeroValue0
  t4 := Tryz.underlying4
  a4 := Tryz.isAgg4
  z4 := Tryz.sizeOf4
  v4 := Tryz.zeroValue4
  t23 := Tryz.underlying89
  a23 := Tryz.isAgg89
  z23 := Tryz.sizeOf89
  v23 := Tryz.zeroValue89
  t26 := Tryz.underlying9
  a26 := Tryz.isAgg9
  z26 := Tryz.sizeOf9
  v26 := Tryz.zeroValue9
  t27 := Tryz.underlying92
  a27 := Tryz.isAgg92
  z27 := Tryz.sizeOf92
  v27 := Tryz.zeroValue92
  t28 := Tryz.underlying93
  a28 := Tryz.isAgg93
  z28 := Tryz.sizeOf93
  v28 := Tryz.zeroValue93
  t33 := Tryz.underlying130
  a33 := Tryz.isAgg130
  z33 := Tryz.sizeOf130
  v33 := Tryz.zeroValue130 }
def sortedL_ren : Go.Shelf.Ren := ⟨fun | 6 => 63 | 8 => 99 | 9 => 100 | 11 => 140 | 13 => 142 | 12 => 141 | 23 => 181 | 24 => 182 | 14 => 172 | 15 => 173 | 16 => 174 | 17 => 175 | 18 => 176 | 19 => 177 | 20 => 178 | 21 => 179 | 22 => 180 | 25 => 192 | 26 => 193 | 27 => 194 | 28 => 195 | 29 => 196 | 30 => 156 | 31 => 204 | n => n, fun | 26 => 9 | 28 => 93 | 24 => 90 | 0 => 0 | 3 => 3 | 37 => 142 | 48 => 124 | 50 => 206 | 4 => 4 | 40 => 198 | 39 => 197 | 45 => 111 | 5 => 5 | 9 => 9 | 51 => 220 | 55 => 224 | 57 => 242 | 58 => 118 | 33 => 130 | n => n, fun | n => n⟩
theorem sortedL : Go.Proofs.SlLaysZ.n6 Tryz.prog sortedL_ren := {
  mixed := by kernel_rfl
  f6 := ⟨Tryz.f63.name, by decide, Tryz.func63.trans (congrArg some (by kernel_rfl))⟩
  f8 := ⟨Tryz.f99.name, by decide, Tryz.func99.trans (congrArg some (by kernel_rfl))⟩
  f11 := ⟨Tryz.f140.name, by decide, Tryz.func140.trans (congrArg some (by kernel_rfl))⟩
  t0 := Tryz.underlying0
  a0 := Tryz.isAgg0
  z0 := Tryz.sizeOf0
  v0 := Tryz.zeroValue0
  t24 := Tryz.underlying90
  a24 := Tryz.isAgg90
  z24 := Tryz.sizeOf90
  v24 := Tryz.zeroValue90
  t26 := Tryz.underlying9
  a26 := Tryz.isAgg9
  z26 := Tryz.sizeOf9
  v26 := Tryz.zeroValue9
  t28 := Tryz.underlying93
  a28 := Tryz.isAgg93
  z28 := Tryz.sizeOf93
  v28 := Tryz.zeroValue93
  i26 := by kernel_rfl }
def sortL_ren : Go.Shelf.Ren := ⟨fun | 6 => 100 | 8 => 142 | 9 => 141 | 19 => 181 | 20 => 182 | 21 => 172 | 22 => 173 | 23 => 174 | 24 => 175 | 25 => 176 | 26 => 177 | 27 => 178 | 28 => 179 | 29 => 180 | 36 => 192 | 31 => 193 | 32 => 194 | 37 => 195 | 38 => 196 | 39 => 156 | 41 => 204 | n => n, fun | 27 => 90 | 29 => 9 | 3 => 3 | 32 => 142 | 26 => 90 | 0 => 0 | 44 => 124 | 46 => 206 | 4 => 4 | 36 => 198 | 35 => 197 | 41 => 111 | 5 => 5 | 9 => 9 | 53 => 220 | 57 => 224 | 63 => 242 | 64 => 118 | n => n, fun | n => n⟩
theorem sortL : Go.Proofs.SlLaysM.n6 Tryz.prog sortL_ren := {
  mixed := by kernel_rfl
  f6 := ⟨Tryz.f100.name, by decide, Tryz.func100.trans (congrArg some (by kernel_rfl))⟩
  f8 := Tryz.func142.trans (congrArg some (by kernel_rfl))
  f9 := ⟨Tryz.f141.name, by decide, Tryz.func141.trans (congrArg some (by kernel_rfl))⟩
  f19 := Tryz.func181.trans (congrArg some (by kernel_rfl))
  f20 := Tryz.func182.trans (congrArg some (by kernel_rfl))
  f21 := ⟨Tryz.f172.name, by decide, Tryz.func172.trans (congrArg some (by kernel_rfl))⟩
  f22 := ⟨Tryz.f173.name, by decide, Tryz.func173.trans (congrArg some (by kernel_rfl))⟩
  f23 := ⟨Tryz.f174.name, by decide, Tryz.func174.trans (congrArg some (by kernel_rfl))⟩
  f24 := ⟨Tryz.f175.name, by decide, Tryz.func175.trans (congrArg some (by kernel_rfl))⟩
  f25 := ⟨Tryz.f176.name, by decide, Tryz.func176.trans (congrArg some (by kernel_rfl))⟩
  f26 := ⟨Tryz.f177.name, by decide, Tryz.func177.trans (congrArg some (by kernel_rfl))⟩
  f27 := ⟨Tryz.f178.name, by decide, Tryz.func178.trans (congrArg some (by kernel_rfl))⟩
  f28 := ⟨Tryz.f179.name, by decide, Tryz.func179.trans (congrArg some (by kernel_rfl))⟩
  f29 := ⟨Tryz.f180.name, by decide, Tryz.func180.trans (congrArg some (by kernel_rfl))⟩
  f31 := Tryz.func193.trans (congrArg some (by kernel_rfl))
  f32 := Tryz.func194.trans (congrArg some (by kernel_rfl))
  f36 := ⟨Tryz.f192.name, by decide, Tryz.func192.trans (congrArg some (by kernel_rfl))⟩
  f37 := ⟨Tryz.f195.name, by decide, Tryz.func195.trans (congrArg some (by kernel_rfl))⟩
  f38 := ⟨Tryz.f196.name, by decide, Tryz.func196.trans (congrArg some (by kernel_rfl))⟩
  f39 := ⟨Tryz.f156.name, by decide, Tryz.func156.trans (congrArg some (by kernel_rfl))⟩
  f41 := ⟨Tryz.f204.name, by decide, Tryz.func204.trans (congrArg some (by kernel_rfl))⟩
  t0 := Tryz.underlying0
  a0 := Tryz.isAgg0
  z0 := Tryz.sizeOf0
  v0 := Tryz.zeroValue0
  t3 := Tryz.underlying3
  a3 := Tryz.isAgg3
  z3 := Tryz.sizeOf3
  v3 := Tryz.zeroValue3
  t4 := Tryz.underlying4
  a4 := Tryz.isAgg4
  z4 := Tryz.sizeOf4
  v4 := Tryz.zeroValue4
  t5 := Tryz.underlying5
  a5 := Tryz.isAgg5
  z5 := Tryz.sizeOf5
  v5 := Tryz.zeroValue5
  t9 := Tryz.underlying9
  a9 := Tryz.isAgg9
  z9 := Tryz.sizeOf9
  v9 := Tryz.zeroValue9
  t26 := Tryz.underlying90
  a26 := Tryz.isAgg90
  z26 := Tryz.sizeOf90
  v26 := Tryz.zeroValue90
  t27 := Tryz.underlying90
  a27 := Tryz.isAgg90
  z27 := Tryz.sizeOf90
  v27 := Tryz.zeroValue90
  t29 := Tryz.underlying9
  a29 := Tryz.isAgg9
  z29 := Tryz.sizeOf9
  v29 := Tryz.zeroValue9
  t32 := Tryz.underlying142
  a32 := Tryz.isAgg142
  z32 := Tryz.sizeOf142
  v32 := Tryz.zeroValue142
  t35 := Tryz.underlying197
  a35 := Tryz.isAgg197
  z35 := Tryz.sizeOf197
  v35 := Tryz.zeroValue197
  t36 := Tryz.underlying198
  a36 := Tryz.isAgg198
  z36 := Tryz.sizeOf198
  v36 := Tryz.zeroValue198
  t41 := Tryz.underlying111
  a41 := Tryz.isAgg111
  z41 := Tryz.sizeOf111
  v41 := Tryz.zeroValue111
  t44 := Tryz.underlying124
  a44 := Tryz.isAgg124
  z44 := Tryz.sizeOf124
  v44 := Tryz.zeroValue124
  t46 := Tryz.underlying206
  a46 := Tryz.isAgg206
  z46 := Tryz.sizeOf206
  v46 := Tryz.zeroValue206
  t53 := Tryz.underlying220
  a53 := Tryz.isAgg220
  z53 := Tryz.sizeOf220
  v53 := Tryz.zeroValue220
  t57 := Tryz.underlying224
  a57 := Tryz.isAgg224
  z57 := Tryz.sizeOf224
  v57 := Tryz.zeroValue224
  t63 := Tryz.underlying242
  a63 := Tryz.isAgg242
  z63 := Tryz.sizeOf242
  v63 := Tryz.zeroValue242
  t64 := Tryz.underlying118
  a64 := Tryz.isAgg118
  z64 := Tryz.sizeOf118
  v64 := Tryz.zeroValue118 }

theorem sortsL (m : Nat) : AnyZ.SortsIn Tryz.prog sortedL_ren Fence.wide m :=
  ⟨fun blk off cap ss W hH hblk hsz => callsIn_wide.2 (AnyM.slices_Sort_string sortL blk off cap ss W hH hblk hsz),
   fun p cap W => callsIn_wide.2 (AnyM.slices_Sort_string_none sortL p cap W)⟩

theorem keys_in (mb : Option Nat) (W : World) : CallsIn Fence.wide 5 Tryz.prog 64 #[.map mb] W fun e w' => e = .returned (.func (.func 101) #[] #[.pointer (some ⟨W.heap.size, 0, none⟩)]) ∧ w' = W.alloc (.cells #[.map mb] 89) :=
  AnyZ.keys_in keysL Fence.wide 5 trivial rfl mb W

set_option maxHeartbeats 1000000 in
theorem sorted_in {H : Type} (b nn : Nat) (D0 : DataW H) (R : Value → Option (DataW H × List MemPlace)) (w : World) (hown : w.ownsMap Tryz.prog 9 R b nn D0) (hmax : Maps.size D0 ≤ maxLen) (hbytes : Maps.size D0 * 16 ≤ 140737488355328) :
    CallsIn Fence.wide 5 Tryz.prog 63 #[.func (.func 101) #[] #[.pointer (some ⟨w.heap.size, 0, none⟩)]] (w.alloc (.cells #[.map (some b)] 89)) fun e w' => ∃ (v : Value) (ss : List (List UInt8)), e = .returned v ∧ ss.Perm (strKeys D0) ∧
      w'.ownsRow (w.alloc (.cells #[.map (some b)] 89)).heap.size 9 1 v ss.length ((ss.mergeSort (fun x y => decide (x ≤ y))).map encStr) ∧ (v = .slice none 0 0 ↔ ss = []) ∧ Below (w.alloc (.cells #[.map (some b)] 89)).heap.size (w.alloc (.cells #[.map (some b)] 89)) w' := by
  have hbl := hown.lt
  have hseq : SeqGives Fence.wide 2 Tryz.prog 101 #[.pointer (some ⟨w.heap.size, 0, none⟩)] encStr (fun ss => ss.Perm (strKeys D0)) (Maps.size D0) (w.alloc (.cells #[.map (some b)] 89)) :=
    AnyZ.keys_gives (ρ := keysL_ren) { keysL with } Fence.wide _ trivial rfl (by omega) w.heap.size b nn D0 _ (by simp) (by simp) (by
      obtain ⟨es, clock, hb, Ft, hs, hD⟩ := hown
      exact ⟨es, clock, (Below.heap_alloc _ _ b hbl).trans hb, Ft, hs, hD⟩)
  exact AnyZ.sorted_in sortedL Fence.wide 5 trivial trivial trivial trivial rfl (by omega) (sortsL _) (enters_of Tryz.func100 (by kernel_rfl) rfl) 101 #[.pointer (some ⟨w.heap.size, 0, none⟩)] trivial (enters_of Tryz.func101 (by kernel_rfl) rfl) _ _ hmax hbytes _ hseq


theorem keys_call (mb : Option Nat) (W : World) : Calls Tryz.prog 64 #[.map mb] W fun e w' => e = .returned (.func (.func 101) #[] #[.pointer (some ⟨W.heap.size, 0, none⟩)]) ∧ w' = W.alloc (.cells #[.map mb] 89) := callsIn_wide.1 (keys_in mb W)
theorem sorted_call {H : Type} (b nn : Nat) (D0 : DataW H) (R : Value → Option (DataW H × List MemPlace)) (w : World) (hown : w.ownsMap Tryz.prog 9 R b nn D0) (hmax : Maps.size D0 ≤ maxLen) (hbytes : Maps.size D0 * 16 ≤ 140737488355328) :
    Calls Tryz.prog 63 #[.func (.func 101) #[] #[.pointer (some ⟨w.heap.size, 0, none⟩)]] (w.alloc (.cells #[.map (some b)] 89)) fun e w' => ∃ (v : Value) (ss : List (List UInt8)), e = .returned v ∧ ss.Perm (strKeys D0) ∧
      w'.ownsRow (w.alloc (.cells #[.map (some b)] 89)).heap.size 9 1 v ss.length ((ss.mergeSort (fun x y => decide (x ≤ y))).map encStr) ∧ (v = .slice none 0 0 ↔ ss = []) ∧ Below (w.alloc (.cells #[.map (some b)] 89)).heap.size (w.alloc (.cells #[.map (some b)] 89)) w' := callsIn_wide.1 (sorted_in b nn D0 R w hown hmax hbytes)
end Go.Proofs.YtlgcciaebkfnjaaGreatDoor.itl
