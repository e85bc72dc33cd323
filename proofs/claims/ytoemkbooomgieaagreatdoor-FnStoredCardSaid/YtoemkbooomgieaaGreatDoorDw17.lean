/- The program's GetBatch: one pair more, in memory. -/
import Derived.Test.YtoemkbooomgieaaGreatDoorDw16
import Derived.Defers
import Derived.Recover
import Derived.Test.YtoemkbooomgieaaGreatDoorDw15

/- isBatchFault: false of nothing, true of a fault of the reader; nothing that was there is turned. -/
namespace Go.Proofs.YtoemkbooomgieaaGreatDoor.asf
open Go.RowKit Go.Extern.Stop Go.Stop Go.Extern Go.Proofs.YtoemkbooomgieaaGreatDoor.fl
set_option linter.unusedVariables false

/-- the library's variable that errors.As reads -/
def ET (w : World) : Prop := w.cell? ⟨1, 0, none⟩ = some (.iface 201 (.agg #[.pointer (some ⟨2, 137, none⟩)]))
theorem ET.lt {w : World} (h : ET w) : 1 < w.heap.size := by
  rcases Nat.lt_or_ge 1 w.heap.size with h2 | h2
  · exact h2
  · simp [ET, World.cell?, Array.getElem?_eq_none h2] at h

theorem isB (v : Value) (w : World) : (Instr.typeAssert (.iface 154 v) 20 137 true).run Tryz.prog w = .ok (.tuple #[.iface 154 v, .bool true]) w := by kernel_rfl
theorem isN (w : World) : (Instr.typeAssert .nilIface 20 137 true).run Tryz.prog w = .ok (.tuple #[.nilIface, .bool false]) w := by kernel_rfl

set_option maxRecDepth 100000 in
theorem fault_nil (w : World) : Calls Tryz.prog 75 #[.nilIface] w fun e w' => e = .returned (.bool false) ∧ w' = w := by
  have f1 := isN
  go_enter Tryz.func75, Tryz.ntmps75
  go_wp2
  go_ret
  exact ⟨rfl, rfl⟩

set_option maxRecDepth 100000 in
theorem fault_hit (n : Int) (w : World) (hg : ET w) : Calls Tryz.prog 75 #[.iface 154 (.agg #[.int .i64 n])] w fun e w' => e = .returned (.bool true) ∧ Below w.heap.size w w' := by
  have f1 := isB
  have hA := as_hit n ⟨w.heap.size, 0, none⟩ (.int .i64 0) (w.alloc (.cells #[.int .i64 0] 154)) (by rw [World.cell?_alloc_lt _ _ ⟨1, 0, none⟩ hg.lt]; exact hg) (by simp) (by simp)
  go_enter Tryz.func75, Tryz.ntmps75
  go_wp2_with (go_at_call 99; fail)
  refine hA.mono ?_
  rintro e w' ⟨rfl, hw⟩
  have hb : Below w.heap.size w w' := by
    rw [hw]
    exact ((((((Below.refl _ _).alloc (by simp) _).alloc (by simp) _).alloc (by simp; omega) _).alloc (by simp; omega) _).alloc (by simp; omega) _).setCell (by simp) _
  clear hw
  go_wp2
  go_ret
  exact ⟨rfl, hb⟩
end Go.Proofs.YtoemkbooomgieaaGreatDoor.asf

/- The closure that GetBatch defers: behind a panic with a fault it lays nothing and false; else it does nothing. -/
namespace Go.Proofs.YtoemkbooomgieaaGreatDoor.asf
open Go.RowKit Go.Extern.Stop Go.Stop Go.Extern Go.Proofs.YtoemkbooomgieaaGreatDoor.fl
set_option linter.unusedVariables false

set_option maxRecDepth 100000 in
theorem catch_idle (p q : Addr) (w : World) :
    CallsD Tryz.prog 74 #[.pointer (some p), .pointer (some q)] .returning w fun e u' w' => e = .returned (.tuple #[]) ∧ u' = .returning ∧ w' = w := by
  have hN := fault_nil w
  refine callsD_of_wpS Tryz.func74 rfl fun c₀ cs hu => ?_
  apply wpS_seq
  apply wpS_region
  simp [wpOpsS, go_sem, recoverD, hu, Tryz.ntmps74, Exit.thenS]
  refine hN.mono ?_
  rintro e w' ⟨rfl, hw⟩
  obtain rfl := hw.symm
  simp [go_sem]
  refine wpS_cond (t := false) (by simp [Act.eval, Array.replicate]) ?_
  simp only [Bool.false_eq_true, if_false]
  refine wpS_of_wp (wp_skip ?_)
  cases c₀
  simp_all [bodyPostS, results, Tryz.results74]

set_option maxRecDepth 100000 in
theorem catch_hit (p q : Nat) (n : Int) (x y : Value) (w : World) (hg : ET w) (hp : w.cell? ⟨p, 0, none⟩ = some x) (hp2 : w.frozen? ⟨p, 0, none⟩ = false) (hq : w.cell? ⟨q, 0, none⟩ = some y) (hq2 : w.frozen? ⟨q, 0, none⟩ = false) (hpq : p ≠ q) :
    CallsD Tryz.prog 74 #[.pointer (some ⟨p, 0, none⟩), .pointer (some ⟨q, 0, none⟩)] (.panicking [{ v := .iface 154 (.agg #[.int .i64 n]), recovered := false }]) w fun e u' w' =>
      e = .returned (.tuple #[]) ∧ u' = .panicking [{ v := .iface 154 (.agg #[.int .i64 n]), recovered := true }] ∧ ∃ w1, Below w.heap.size w w1 ∧ w' = (w1.setCell ⟨p, 0, none⟩ (.slice none 0 0)).setCell ⟨q, 0, none⟩ (.bool false) := by
  have hN := fault_hit n w hg
  have lp : p < w.heap.size := by
    rcases Nat.lt_or_ge p w.heap.size with h | h
    · exact h
    · simp [World.cell?, Array.getElem?_eq_none h] at hp
  have lq : q < w.heap.size := by
    rcases Nat.lt_or_ge q w.heap.size with h | h
    · exact h
    · simp [World.cell?, Array.getElem?_eq_none h] at hq
  refine callsD_of_wpS Tryz.func74 rfl fun c₀ cs hu => ?_
  apply wpS_seq
  apply wpS_region
  simp [wpOpsS, go_sem, recoverD, hu, Tryz.ntmps74, Exit.thenS]
  refine hN.mono ?_
  rintro e w' ⟨rfl, hb⟩
  have h1 : w'.cell? ⟨p, 0, none⟩ = some x := by rw [hb.cell lp]; exact hp
  have h2 : w'.frozen? ⟨p, 0, none⟩ = false := by rw [hb.frozen lp]; exact hp2
  have h3 : w'.cell? ⟨q, 0, none⟩ = some y := by rw [hb.cell lq]; exact hq
  have h4 : w'.frozen? ⟨q, 0, none⟩ = false := by rw [hb.frozen lq]; exact hq2
  simp [go_sem]
  refine wpS_cond (t := true) (by simp [Act.eval, Array.replicate]) ?_
  simp only [if_true]
  apply wpS_region
  simp [wpOpsS, go_sem, h1, h2, h3, h4, bodyPostS, results, Tryz.results74]
  exact ⟨w', hb, rfl⟩
end Go.Proofs.YtoemkbooomgieaaGreatDoor.asf

/- The program's reader of a batch: one pair. -/
namespace Go.Proofs.YtoemkbooomgieaaGreatDoor.brd
open Go.ChangeShapes Go.WideShapes Go.ChangeAt Go.RowKit Go.Proofs.YtoemkbooomgieaaGreatDoor.fl Go.Proofs.YtoemkbooomgieaaGreatDoor.fo Go.Proofs.YtoemkbooomgieaaGreatDoor.gbp Go.Proofs.YtoemkbooomgieaaGreatDoor.gbs
set_option linter.unusedVariables false

/-- what stands while a pair is read: the reader at a place, the pair as far as it is read, the answer's place -/
structure PB (w : World) (r : Nat) (s : ByteArray) (i : Int) (k v : ByteArray) (g : Bool) (W : World) : Prop where
  tr : Tr r w W
  rb : RB W r s i
  lt : r < w.heap.size
  pb : W.heap[w.heap.size + 1]? = some (.cells #[.string k, .string v, .bool g] 61 (0, 0))
  res : W.heap[w.heap.size]? = some (.cells #[.string ⟨#[]⟩, .string ⟨#[]⟩, .bool false] 61 (0, 0))
section
variable {w W W' : World} {r : Nat} {s : ByteArray} {i j : Int} {k v : ByteArray} {g : Bool}
theorem PB.on (h : PB w r s i k v g W) (hb : Below W.heap.size W W') : PB w r s i k v g W' := ⟨h.tr.trans (tr_below hb), h.rb.on hb, h.lt, bstay h.pb hb (Array.getElem?_eq_some_iff.1 h.pb).1, bstay h.res hb (Array.getElem?_eq_some_iff.1 h.res).1⟩
theorem PB.moved (h : PB w r s i k v g W) (hr : RB W' r s j) (ht : Tr r W W') : PB w r s j k v g W' := ⟨h.tr.trans ht, hr, h.lt, (ht.block _ (Array.getElem?_eq_some_iff.1 h.pb).1 (by have := h.lt; omega)).trans h.pb, (ht.block _ (Array.getElem?_eq_some_iff.1 h.res).1 (by have := h.lt; omega)).trans h.res⟩
theorem PB.set (h : PB w r s i k v g W) (o : Nat) (u : Value) {k' v' : ByteArray} {g' : Bool} (he : (#[.string k, .string v, .bool g] : Array Value).setIfInBounds o u = #[.string k', .string v', .bool g']) : PB w r s i k' v' g' (W.setCell ⟨w.heap.size + 1, o, none⟩ u) := by
  have hl := h.lt
  have hs := h.tr.size
  refine ⟨⟨h.tr.os, h.tr.tape, h.tr.output, by simpa using h.tr.size, fun q hq hn => (Below.heap_setCell _ _ _ _ (by show q ≠ w.heap.size + 1; omega)).trans (h.tr.block q hq hn)⟩, boff h.rb _ _ _ (by omega), hl, ?_, boff h.res _ _ _ (by omega)⟩
  have := bset h.pb o u
  rw [he] at this
  exact this
end
/-- what the reader answers of a pair -/
def PAns (s : ByteArray) (i : Int) (r : Nat) (w : World) (e : Ending) (w' : World) : Prop :=
  (∃ p j, stp s i = some (p, j) ∧ bo.okP p ∧ e = .returned (.agg #[.string p.k, .string p.v, .bool p.g]) ∧ RB w' r s j ∧ Tr r w w') ∨ ((∀ p j, stp s i = some (p, j) → ¬ bo.okP p) ∧ Pk e ∧ Tr r w w')
set_option maxRecDepth 100000 in
set_option maxHeartbeats 2000000 in
theorem pair_run (r : Nat) (s : ByteArray) (i : Int) (w : World) (hs : s.size ≤ 1048576) (h : RB w r s i) (hi0 : 0 ≤ i) (hi1 : i ≤ s.size) : Calls Tryz.prog 77 #[.pointer (some ⟨r, 0, none⟩)] w fun e w' => PAns s i r w e w' := by
  have hrl := (Array.getElem?_eq_some_iff.1 h).1
  have h0 : PB w r s i ⟨#[]⟩ ⟨#[]⟩ false ((w.alloc (.cells #[.string ⟨#[]⟩, .string ⟨#[]⟩, .bool false] 61)).alloc (.cells #[.string ⟨#[]⟩, .string ⟨#[]⟩, .bool false] 61)) := by
    have hb : Below w.heap.size w ((w.alloc (.cells #[.string ⟨#[]⟩, .string ⟨#[]⟩, .bool false] 61)).alloc (.cells #[.string ⟨#[]⟩, .string ⟨#[]⟩, .bool false] 61)) := ((Below.refl _ _).alloc (Nat.le_refl _) _).alloc (by simp) _
    refine ⟨tr_below hb, h.on hb, hrl, ?_, bold (bnew w _ _) _⟩
    have := bnew (w.alloc (.cells #[.string ⟨#[]⟩, .string ⟨#[]⟩, .bool false] 61)) #[.string ⟨#[]⟩, .string ⟨#[]⟩, .bool false] 61
    rw [World.size_alloc] at this
    exact this
  obtain ⟨W, hW⟩ : ∃ W, (w.alloc (.cells #[.string ⟨#[]⟩, .string ⟨#[]⟩, .bool false] 61)).alloc (.cells #[.string ⟨#[]⟩, .string ⟨#[]⟩, .bool false] 61) = W := ⟨_, rfl⟩
  rw [hW] at h0
  have H0 : Hid (PB w r s i ⟨#[]⟩ ⟨#[]⟩ false W) := h0
  clear h
  cases hc : (gi.okAt s i 1 && decide (gi.num s i 1 ≤ 1)) with
  | false =>
    have hn := number_bad r s i 1 W hs h0.rb hi0 hi1 (by omega) hc
    have HNO : Hid (∀ p j, stp s i = some (p, j) → ¬ bo.okP p) := fun p j hp => by
      rw [stp_bad (by cases ha : gi.okAt s i 1 <;> rw [ha] at hc <;> simp at hc ⊢; intro _; exact hc)] at hp
      cases hp
    clear h0 hc
    go_enter Tryz.func77, Tryz.ntmps77
    go_wp2_with (go_at_call 76; fail)
    clear hW
    refine hn.mono ?_
    rintro e w1 ⟨⟨j, rfl⟩, ht⟩
    have HT : Hid (Tr r w w1) := H0.out.tr.trans ht
    go_wp2
    exact ⟨rfl, .inr ⟨HNO.out, ⟨j, rfl⟩, HT.out⟩⟩
  | true =>
    simp only [Bool.and_eq_true, decide_eq_true_eq] at hc
    obtain ⟨ha, hn1⟩ := hc
    have hai := at_in ha
    have hn := number_run r s i 1 W hs h0.rb (by omega) ha hn1
    obtain ⟨g, hg⟩ : ∃ g : Bool, decide (gi.num s i 1 = 1) = g := ⟨_, rfl⟩
    have HGN : Hid (decide (gi.num s i 1 = 1) = g) := hg
    obtain ⟨n0, hn0⟩ : ∃ n0, gi.num s i 1 = n0 := ⟨_, rfl⟩
    have HN0 : Hid (gi.num s i 1 = n0) := hn0
    rw [hn0] at hn hg hn1
    have dg : (n0 == 1) = g := by rw [← hg]; rfl
    have HA : Hid (gi.okAt s i 1 = true) := ha
    clear h0 ha hai hg hn0
    go_enter Tryz.func77, Tryz.ntmps77
    go_wp2_with (go_at_call 76; fail)
    clear hW
    refine hn.mono ?_
    rintro e w1 ⟨rfl, hr1, ht1⟩
    have h1 := H0.out.moved hr1 ht1
    have h2 := h1.set 2 (.bool g) (k' := ⟨#[]⟩) (v' := ⟨#[]⟩) (g' := g) rfl
    have c2 : w1.cell? ⟨w.heap.size + 1, 2, none⟩ = some (.bool false) := bcell h1.pb rfl
    have f2 := bfree h1.pb 2
    obtain ⟨W2, hW2⟩ : ∃ W2, w1.setCell ⟨w.heap.size + 1, 2, none⟩ (.bool g) = W2 := ⟨_, rfl⟩
    rw [hW2] at h2
    have HS : Hid (∀ W', Below W2.heap.size W2 W' → Calls Tryz.prog 102 #[.string s, .int .i64 (i + 1)] W' fun e w' => e = .returned (.tuple #[.string (gs.text s (i + 1)), .int .i64 (gs.behind s (i + 1))]) ∧ Below W'.heap.size W' w') := fun W' _ => gs.impl_getShort s (i + 1) W' hs (by omega) (by omega)
    have H2 : Hid (PB w r s (i + 1) ⟨#[]⟩ ⟨#[]⟩ g W2) := h2
    have r0 : W2.cell? ⟨r, 0, none⟩ = some (.string s) := bcell h2.rb rfl
    have r1 : W2.cell? ⟨r, 1, none⟩ = some (.int .i64 (i + 1)) := bcell h2.rb rfl
    have hs2 := HS.out W2.drew (Below.refl _ _).drew
    have hpl : w.heap.size + 1 < W2.heap.size := (Array.getElem?_eq_some_iff.1 h2.pb).1
    have HP : Hid (∀ w5, Below W2.drew.heap.size W2.drew w5 → PB w r s (i + 1) ⟨#[]⟩ ⟨#[]⟩ g w5) := fun w5 hb5 => H2.out.on ((Below.refl _ W2).drew.trans hb5)
    clear hn hr1 ht1 h1 h2 H0
    go_wp2
    clear hW2 c2 f2
    go_region_with (go_at_call 102; refine hs2.mono ?_; rintro e w5 ⟨rfl, hb5⟩; have h5 := HP.out w5 hb5; have p0 : w5.cell? ⟨w.heap.size + 1, 0, none⟩ = some (.string ⟨#[]⟩) := bcell h5.pb rfl; have q0 : w5.frozen? ⟨w.heap.size + 1, 0, none⟩ = false := bfree h5.pb 0)
    all_goals
      have h6 := h5.set 0 (.string (gs.text s (i + 1))) (k' := (gs.text s (i + 1))) (v' := ⟨#[]⟩) (g' := g) rfl
      obtain ⟨W6, hW6⟩ : ∃ W6, w5.setCell ⟨w.heap.size + 1, 0, none⟩ (.string (gs.text s (i + 1))) = W6 := ⟨_, rfl⟩
      rw [hW6] at h6 ⊢
      have H6 : Hid (PB w r s (i + 1) (gs.text s (i + 1)) ⟨#[]⟩ g W6) := h6
      clear hW6 h5 p0 q0 hb5 hs2 HP HS H2 r0 r1
      cases hh : gs.here s (i + 1) with
      | false =>
        have hmv := move_bad r s (i + 1) (-1) W6 h6.rb (by omega)
        have HNO : Hid (∀ p j, stp s i = some (p, j) → ¬ bo.okP p) := fun p j hp => by
          rw [stp_bad (by rw [hh]; simp)] at hp
          cases hp
        rw [short_no hh]
        clear h6 hh
        go_wp2_with (go_at_call 101; refine hmv.mono ?_; rintro e w7 ⟨⟨q, rfl⟩, hw7⟩; obtain rfl := hw7.symm)
        exact ⟨rfl, .inr ⟨HNO.out, ⟨q, rfl⟩, H6.out.tr⟩⟩
      | true =>
        have hsi := short_in hh
        have HC : Hid ((gi.okAt s i 1 && (gs.here s (i + 1) && decide (gi.num s i 1 ≤ 1))) = true) := by unfold Hid; rw [HA.out, hh, HN0.out]; simp; exact hn1
        obtain ⟨e0, he0⟩ : ∃ e0, gs.behind s (i + 1) = e0 := ⟨_, rfl⟩
        have HE0 : Hid (gs.behind s (i + 1) = e0) := he0
        rw [he0] at hsi ⊢
        have hmv := move_run r s (i + 1) e0 W6 h6.rb hsi.1
        have h7 := h6.moved (h6.rb.moved e0) (tr_moved W6 r e0)
        obtain ⟨W7, hW7⟩ : ∃ W7, W6.setCell ⟨r, 1, none⟩ (.int .i64 e0) = W7 := ⟨_, rfl⟩
        rw [hW7] at hmv h7
        have H7 : Hid (PB w r s e0 (gs.text s (i + 1)) ⟨#[]⟩ g W7) := h7
        clear h6 hh he0 hW7 H6
        go_wp2_with (go_at_call 101; fail)
        refine hmv.mono ?_
        rintro e w7 ⟨rfl, hw7⟩
        obtain rfl := hw7
        have g2 : w7.cell? ⟨w.heap.size + 1, 2, none⟩ = some (.bool g) := bcell h7.pb rfl
        clear hmv h7
        cases g with
        | true =>
          have hnum : gi.num s i 1 = 1 := of_decide_eq_true HGN.out
          have c0 : w7.cell? ⟨w.heap.size + 1, 0, none⟩ = some (.string (gs.text s (i + 1))) := bcell H7.out.pb rfl
          have c1 : w7.cell? ⟨w.heap.size + 1, 1, none⟩ = some (.string ⟨#[]⟩) := bcell H7.out.pb rfl
          have c2 : w7.cell? ⟨w.heap.size + 1, 2, none⟩ = some (.bool true) := bcell H7.out.pb rfl
          have hpo := bo.pair_ok ⟨(gs.text s (i + 1)), ⟨#[]⟩, true⟩ w7 (text_small hs).1 (by show (0 : Nat) ≤ _; omega)
          have HST : Hid (stp s i = some (⟨(gs.text s (i + 1)), ⟨#[]⟩, true⟩, e0)) := by unfold Hid; rw [stp_gone HC.out hnum, HE0.out]
          go_wp2_with (go_at_call 94; fail)
          clear c0 c1 c2
          refine hpo.mono ?_
          rintro e w9 ⟨⟨ok, rfl, hok⟩, hb9⟩
          have h9 := H7.out.on hb9
          have H9 : Hid (PB w r s e0 (gs.text s (i + 1)) ⟨#[]⟩ true w9) := h9
          have HOK : Hid (ok = true ↔ bo.okP ⟨(gs.text s (i + 1)), ⟨#[]⟩, true⟩) := hok
          clear hpo hok hb9
          cases ok with
          | false =>
            have hf := fail_run r s e0 w9 h9.rb
            have HNO : Hid (∀ p j, stp s i = some (p, j) → ¬ bo.okP p) := fun p q hp hk => by
              rw [HST.out] at hp
              cases hp
              have := HOK.out.2 hk
              cases this
            clear h9
            go_wp2_with (go_at_call 100; refine hf.mono ?_; rintro e w10 ⟨⟨q, rfl⟩, hw10⟩; obtain rfl := hw10.symm)
            exact ⟨rfl, .inr ⟨HNO.out, ⟨q, rfl⟩, H9.out.tr⟩⟩
          | true =>
            have c0 : w9.cell? ⟨w.heap.size + 1, 0, none⟩ = some (.string (gs.text s (i + 1))) := bcell h9.pb rfl
            have c1 : w9.cell? ⟨w.heap.size + 1, 1, none⟩ = some (.string ⟨#[]⟩) := bcell h9.pb rfl
            have c2 : w9.cell? ⟨w.heap.size + 1, 2, none⟩ = some (.bool true) := bcell h9.pb rfl
            have z0 : w9.cell? ⟨w.heap.size, 0, none⟩ = some (.string ⟨#[]⟩) := bcell h9.res rfl
            have z1 : w9.cell? ⟨w.heap.size, 1, none⟩ = some (.string ⟨#[]⟩) := bcell h9.res rfl
            have z2 : w9.cell? ⟨w.heap.size, 2, none⟩ = some (.bool false) := bcell h9.res rfl
            have f0 := bfree h9.res 0
            have f1 := bfree h9.res 1
            have f2 := bfree h9.res 2
            have HFI : Hid (RB (((w9.setCell ⟨w.heap.size, 0, none⟩ (.string (gs.text s (i + 1)))).setCell ⟨w.heap.size, 1, none⟩ (.string ⟨#[]⟩)).setCell ⟨w.heap.size, 2, none⟩ (.bool true)) r s e0 ∧ Tr r w (((w9.setCell ⟨w.heap.size, 0, none⟩ (.string (gs.text s (i + 1)))).setCell ⟨w.heap.size, 1, none⟩ (.string ⟨#[]⟩)).setCell ⟨w.heap.size, 2, none⟩ (.bool true))) := by
              refine ⟨boff (boff (boff h9.rb _ _ _ (by omega)) _ _ _ (by omega)) _ _ _ (by omega), ?_⟩
              have hsz := h9.tr.size
              exact ⟨h9.tr.os, h9.tr.tape, h9.tr.output, by simpa using hsz, fun q hq hn => ((Below.heap_setCell _ _ _ _ (show q ≠ w.heap.size by omega)).trans ((Below.heap_setCell _ _ _ _ (show q ≠ w.heap.size by omega)).trans (Below.heap_setCell _ _ _ _ (show q ≠ w.heap.size by omega)))).trans (h9.tr.block q hq hn)⟩
            have HKP : Hid (bo.okP ⟨(gs.text s (i + 1)), ⟨#[]⟩, true⟩) := HOK.out.1 rfl
            clear h9 HOK
            go_wp2
            exact bodyPost_ret (v := .agg #[.string (gs.text s (i + 1)), .string ⟨#[]⟩, .bool true]) (by simp [results, Tryz.results77, go_sem, z0, z1, z2]) rfl (.inl ⟨_, _, HST.out, HKP.out, rfl, HFI.out.1, HFI.out.2⟩)
        | false =>
          have hnum : gi.num s i 1 ≠ 1 := of_decide_eq_false HGN.out
          have r0 : w7.cell? ⟨r, 0, none⟩ = some (.string s) := bcell H7.out.rb rfl
          have r1 : w7.cell? ⟨r, 1, none⟩ = some (.int .i64 e0) := bcell H7.out.rb rfl
          have hgl := gl.impl_getLong s e0 w7.drew hs (by omega) (by omega)
          have HP : Hid (∀ w8, Below w7.drew.heap.size w7.drew w8 → PB w r s e0 (gs.text s (i + 1)) ⟨#[]⟩ false w8) := fun w8 hb8 => H7.out.on ((Below.refl _ w7).drew.trans hb8)
          go_wp2
          go_region_with (go_at_call 49; refine hgl.mono ?_; rintro e w8 ⟨rfl, hb8⟩; have h8 := HP.out w8 hb8; have p1 : w8.cell? ⟨w.heap.size + 1, 1, none⟩ = some (.string ⟨#[]⟩) := bcell h8.pb rfl; have q1 : w8.frozen? ⟨w.heap.size + 1, 1, none⟩ = false := bfree h8.pb 1)
          all_goals
            have h9 := h8.set 1 (.string (gl.text s e0)) (k' := (gs.text s (i + 1))) (v' := (gl.text s e0)) (g' := false) rfl
            obtain ⟨W9, hW9⟩ : ∃ W9, w8.setCell ⟨w.heap.size + 1, 1, none⟩ (.string (gl.text s e0)) = W9 := ⟨_, rfl⟩
            rw [hW9] at h9 ⊢
            have H9' : Hid (PB w r s e0 (gs.text s (i + 1)) (gl.text s e0) false W9) := h9
            clear hW9 h8 p1 q1 hb8 hgl HP r0 r1 g2
            cases hl : gl.here s e0 with
            | false =>
              have hmv := move_bad r s e0 (-1) W9 h9.rb (by omega)
              have HNO : Hid (∀ p j, stp s i = some (p, j) → ¬ bo.okP p) := fun p j hp => by
                rw [stp_noval HC.out hnum (by rw [HE0.out]; exact hl)] at hp
                cases hp
              rw [long_no hl]
              clear h9 hl hnum
              go_wp2_with (go_at_call 101; refine hmv.mono ?_; rintro e w10 ⟨⟨q, rfl⟩, hw10⟩; obtain rfl := hw10.symm)
              exact ⟨rfl, .inr ⟨HNO.out, ⟨q, rfl⟩, H9'.out.tr⟩⟩
            | true =>
              have hli := long_in hl
              have HSV : Hid (stp s i = some (⟨(gs.text s (i + 1)), (gl.text s e0), false⟩, gl.behind s e0)) := by unfold Hid; rw [stp_val HC.out hnum (by rw [HE0.out]; exact hl), HE0.out]
              obtain ⟨j0, hj0⟩ : ∃ j0, gl.behind s e0 = j0 := ⟨_, rfl⟩
              rw [hj0] at hli HSV ⊢
              have hmv := move_run r s e0 j0 W9 h9.rb hli.1
              have h10 := h9.moved (h9.rb.moved j0) (tr_moved W9 r j0)
              obtain ⟨W10, hW10⟩ : ∃ W10, W9.setCell ⟨r, 1, none⟩ (.int .i64 j0) = W10 := ⟨_, rfl⟩
              rw [hW10] at hmv h10
              have H10 : Hid (PB w r s j0 (gs.text s (i + 1)) (gl.text s e0) false W10) := h10
              clear h9 hl hj0 hW10 H9' h10 hnum
              go_wp2_with (go_at_call 101; fail)
              refine hmv.mono ?_
              rintro e w11 ⟨rfl, hw11⟩
              obtain rfl := hw11
              clear hmv
              have c0 : w11.cell? ⟨w.heap.size + 1, 0, none⟩ = some (.string (gs.text s (i + 1))) := bcell H10.out.pb rfl
              have c1 : w11.cell? ⟨w.heap.size + 1, 1, none⟩ = some (.string (gl.text s e0)) := bcell H10.out.pb rfl
              have c2 : w11.cell? ⟨w.heap.size + 1, 2, none⟩ = some (.bool false) := bcell H10.out.pb rfl
              have hpo := bo.pair_ok ⟨(gs.text s (i + 1)), (gl.text s e0), false⟩ w11 (text_small hs).1 (text_small hs).2
              have HST : Hid (stp s i = some (⟨(gs.text s (i + 1)), (gl.text s e0), false⟩, j0)) := HSV
              go_wp2_with (go_at_call 94; fail)
              clear c0 c1 c2
              refine hpo.mono ?_
              rintro e w9 ⟨⟨ok, rfl, hok⟩, hb9⟩
              have h9 := H10.out.on hb9
              have H9 : Hid (PB w r s j0 (gs.text s (i + 1)) (gl.text s e0) false w9) := h9
              have HOK : Hid (ok = true ↔ bo.okP ⟨(gs.text s (i + 1)), (gl.text s e0), false⟩) := hok
              clear hpo hok hb9
              cases ok with
              | false =>
                have hf := fail_run r s j0 w9 h9.rb
                have HNO : Hid (∀ p j, stp s i = some (p, j) → ¬ bo.okP p) := fun p q hp hk => by
                  rw [HST.out] at hp
                  cases hp
                  have := HOK.out.2 hk
                  cases this
                clear h9
                go_wp2_with (go_at_call 100; refine hf.mono ?_; rintro e w10 ⟨⟨q, rfl⟩, hw10⟩; obtain rfl := hw10.symm)
                exact ⟨rfl, .inr ⟨HNO.out, ⟨q, rfl⟩, H9.out.tr⟩⟩
              | true =>
                have c0 : w9.cell? ⟨w.heap.size + 1, 0, none⟩ = some (.string (gs.text s (i + 1))) := bcell h9.pb rfl
                have c1 : w9.cell? ⟨w.heap.size + 1, 1, none⟩ = some (.string (gl.text s e0)) := bcell h9.pb rfl
                have c2 : w9.cell? ⟨w.heap.size + 1, 2, none⟩ = some (.bool false) := bcell h9.pb rfl
                have z0 : w9.cell? ⟨w.heap.size, 0, none⟩ = some (.string ⟨#[]⟩) := bcell h9.res rfl
                have z1 : w9.cell? ⟨w.heap.size, 1, none⟩ = some (.string ⟨#[]⟩) := bcell h9.res rfl
                have z2 : w9.cell? ⟨w.heap.size, 2, none⟩ = some (.bool false) := bcell h9.res rfl
                have f0 := bfree h9.res 0
                have f1 := bfree h9.res 1
                have f2 := bfree h9.res 2
                have HFI : Hid (RB (((w9.setCell ⟨w.heap.size, 0, none⟩ (.string (gs.text s (i + 1)))).setCell ⟨w.heap.size, 1, none⟩ (.string (gl.text s e0))).setCell ⟨w.heap.size, 2, none⟩ (.bool false)) r s j0 ∧ Tr r w (((w9.setCell ⟨w.heap.size, 0, none⟩ (.string (gs.text s (i + 1)))).setCell ⟨w.heap.size, 1, none⟩ (.string (gl.text s e0))).setCell ⟨w.heap.size, 2, none⟩ (.bool false))) := by
                  refine ⟨boff (boff (boff h9.rb _ _ _ (by omega)) _ _ _ (by omega)) _ _ _ (by omega), ?_⟩
                  have hsz := h9.tr.size
                  exact ⟨h9.tr.os, h9.tr.tape, h9.tr.output, by simpa using hsz, fun q hq hn => ((Below.heap_setCell _ _ _ _ (show q ≠ w.heap.size by omega)).trans ((Below.heap_setCell _ _ _ _ (show q ≠ w.heap.size by omega)).trans (Below.heap_setCell _ _ _ _ (show q ≠ w.heap.size by omega)))).trans (h9.tr.block q hq hn)⟩
                have HKP : Hid (bo.okP ⟨(gs.text s (i + 1)), (gl.text s e0), false⟩) := HOK.out.1 rfl
                clear h9 HOK
                go_wp2
                exact bodyPost_ret (v := .agg #[.string (gs.text s (i + 1)), .string (gl.text s e0), .bool false]) (by simp [results, Tryz.results77, go_sem, z0, z1, z2]) rfl (.inl ⟨_, _, HST.out, HKP.out, rfl, HFI.out.1, HFI.out.2⟩)
end Go.Proofs.YtoemkbooomgieaaGreatDoor.brd

/- The program's GetBatch: the walk where the number of pairs is none; what stands while it reads. -/
namespace Go.Proofs.YtoemkbooomgieaaGreatDoor.gim
open Go.ChangeShapes Go.WideShapes Go.ChangeAt Go.RowKit Go.Proofs.YtoemkbooomgieaaGreatDoor.fl Go.Proofs.YtoemkbooomgieaaGreatDoor.fo Go.Proofs.YtoemkbooomgieaaGreatDoor.gbp Go.Proofs.YtoemkbooomgieaaGreatDoor.brd Go.Proofs.YtoemkbooomgieaaGreatDoor.asf
set_option linter.unusedVariables false

/-- the world in which the reader begins -/
def W0 (s : ByteArray) (w : World) : World := ((w.alloc (.cells #[.slice none 0 0] 28)).alloc (.cells #[.bool false] 4)).alloc (.cells #[.string s, .int .i64 0] 124)

/-- what stands while it reads: the answer's two variables -/
structure Sb (w : World) (v : Value) (W : World) : Prop where
  bel : Below w.heap.size w W
  b : W.heap[w.heap.size]? = some (.cells #[v] 28 (0, 0))
  o : W.heap[w.heap.size + 1]? = some (.cells #[.bool false] 4 (0, 0))
theorem Sb.tr {w W W' : World} {v : Value} (h : Sb w v W) (ht : Tr (w.heap.size + 1 + 1) W W') : Sb w v W' :=
  ⟨h.bel.trans (ht.below h.bel.size (fun k hk => by omega)), (ht.block _ (Array.getElem?_eq_some_iff.1 h.b).1 (by omega)).trans h.b, (ht.block _ (Array.getElem?_eq_some_iff.1 h.o).1 (by omega)).trans h.o⟩
theorem Sb.et {w W : World} {v : Value} (h : Sb w v W) (hg : ET w) : ET W := by
  unfold ET
  rw [h.bel.cell hg.lt]
  exact hg
theorem new_at (w : World) (o : Obj) (k : Nat) (hk : k = w.heap.size) : (w.alloc o).heap[k]? = some o := by
  subst hk
  show (w.heap.push o)[w.heap.size]? = some o
  simp
theorem sb_0 (s : ByteArray) (w : World) : Sb w (.slice none 0 0) (W0 s w) := by
  refine ⟨?_, ?_, ?_⟩
  · exact (((Below.refl _ _).alloc (Nat.le_refl _) _).alloc (by simp) _).alloc (by simp; omega) _
  · unfold W0
    rw [Below.heap_alloc _ _ _ (by simp; omega), Below.heap_alloc _ _ _ (by simp)]
    exact new_at _ _ _ rfl
  · unfold W0
    rw [Below.heap_alloc _ _ _ (by simp)]
    exact new_at _ _ _ (by simp)
theorem rb_0 (s : ByteArray) (w : World) : RB (W0 s w) (w.heap.size + 1 + 1) s 0 := by
  unfold RB W0
  exact new_at _ _ _ (by simp)
/-- what the closure leaves behind a fault -/
theorem sb_left {w W w1 : World} {v : Value} (h : Sb w v W) (hb : Below W.heap.size W w1) :
    ((w1.setCell ⟨w.heap.size, 0, none⟩ (.slice none 0 0)).setCell ⟨w.heap.size + 1, 0, none⟩ (.bool false)).cell? ⟨w.heap.size, 0, none⟩ = some (.slice none 0 0) ∧
    ((w1.setCell ⟨w.heap.size, 0, none⟩ (.slice none 0 0)).setCell ⟨w.heap.size + 1, 0, none⟩ (.bool false)).cell? ⟨w.heap.size + 1, 0, none⟩ = some (.bool false) ∧
    Below w.heap.size w ((w1.setCell ⟨w.heap.size, 0, none⟩ (.slice none 0 0)).setCell ⟨w.heap.size + 1, 0, none⟩ (.bool false)) := by
  have b1 := bstay h.b hb (Array.getElem?_eq_some_iff.1 h.b).1
  have o1 := bstay h.o hb (Array.getElem?_eq_some_iff.1 h.o).1
  have b2 := bset b1 0 (.slice none 0 0)
  have o2 : (w1.setCell ⟨w.heap.size, 0, none⟩ (.slice none 0 0)).heap[w.heap.size + 1]? = some (.cells #[.bool false] 4 (0, 0)) := by
    rw [Below.heap_setCell _ _ _ _ (by simp)]
    exact o1
  have o3 := bset o2 0 (.bool false)
  have b3 : ((w1.setCell ⟨w.heap.size, 0, none⟩ (.slice none 0 0)).setCell ⟨w.heap.size + 1, 0, none⟩ (.bool false)).heap[w.heap.size]? = some (.cells #[.slice none 0 0] 28 (0, 0)) := by
    rw [Below.heap_setCell _ _ _ _ (by simp)]
    exact b2
  refine ⟨bcell b3 rfl, bcell o3 rfl, ?_⟩
  exact ((h.bel.trans (hb.mono h.bel.size)).setCell (Nat.le_refl _) _).setCell (Nat.le_succ _) _

set_option maxRecDepth 100000 in
set_option maxHeartbeats 1000000 in
theorem impl_bad (s : ByteArray) (w : World) (hs : s.size ≤ 1048576) (hg : ET w) (hc : (gi.okAt s 0 1 && decide (gi.num s 0 1 ≤ 60)) = false) :
    Calls Tryz.prog 51 #[.string s] w fun e w' => e = .returned (.tuple #[.slice none 0 0, .bool false]) ∧ Below w.heap.size w w' := by
  have hmf : ∀ (fn : Fn) (first cap : Array Value) (w : World), (Instr.makeFunc fn first cap).run Tryz.prog w = .ok (.func fn first cap) w := fun _ _ _ _ => rfl
  have hn := number_bad (w.heap.size + 1 + 1) s 0 60 (W0 s w) hs (rb_0 s w) (by omega) (by omega) (by omega) hc
  go_enter_defers Tryz.func51, Tryz.ntmps51
  go_wp2_with (go_at_call 76; fail)
  refine hn.mono ?_
  rintro e W ⟨⟨j, rfl⟩, ht⟩
  have hS := (sb_0 s w).tr ht
  clear hn ht
  go_wp2
  refine leaves_cons (f := 74) (args := #[.pointer (some ⟨w.heap.size, 0, none⟩), .pointer (some ⟨w.heap.size + 1, 0, none⟩)]) (by simp) (by simp [go_sem]) ?_
  refine (catch_hit w.heap.size (w.heap.size + 1) j _ _ W (hS.et hg) (bcell hS.b rfl) (bfree hS.b 0) (bcell hS.o rfl) (bfree hS.o 0) (by omega)).mono ?_
  rintro e u' w'' ⟨rfl, rfl, w1, hb, rfl⟩
  obtain ⟨h1, h2, h3⟩ := sb_left hS hb
  simp [Leaves, settle, results, Tryz.results51, go_sem, h1, h2]
  exact h3
end Go.Proofs.YtoemkbooomgieaaGreatDoor.gim

/- The program's GetBatch: one pair more, in memory. -/
namespace Go.Proofs.YtoemkbooomgieaaGreatDoor.gim
open Go.ChangeShapes Go.WideShapes Go.ChangeAt Go.RowKit Go.Proofs.YtoemkbooomgieaaGreatDoor.fl Go.Proofs.YtoemkbooomgieaaGreatDoor.fo Go.Proofs.YtoemkbooomgieaaGreatDoor.gbp Go.Proofs.YtoemkbooomgieaaGreatDoor.brd Go.Proofs.YtoemkbooomgieaaGreatDoor.asf
set_option linter.unusedVariables false

/-- what stands when k pairs are read -/
structure Sr (s : ByteArray) (w : World) (n k : Nat) (i : Int) (l : List flP.Pr) (v : Value) (W : World) : Prop where
  sb : Sb w v W
  rb : RB W (w.heap.size + 1 + 1) s i
  row : W.ownsRow (w.heap.size + 1 + 1 + 1) 61 3 v l.length (l.flatMap flP.c)
  len : l.length = k
  left : gbp.Left s n l (n - k) i
  lo : 0 ≤ i
  hi : i ≤ s.size
  ok : ∀ e ∈ l, bo.okP e

theorem sr_0 {s : ByteArray} {w W : World} {n : Nat} (hS : Sb w (.slice none 0 0) W) (hr : RB W (w.heap.size + 1 + 1) s (0 + 1)) (h1 : 1 ≤ s.size) : Sr s w n 0 (0 + 1) [] (.slice none 0 0) W :=
  ⟨hS, hr, World.ownsRow_nil _ _ _ _, rfl, left_0 s n, by omega, by omega, fun e he => by cases he⟩

set_option maxRecDepth 100000 in
theorem one_more {s : ByteArray} {w W W1 : World} {n k : Nat} {i j : Int} {l : List flP.Pr} {v : Value} {p : flP.Pr} (hs : s.size ≤ 1048576) (h : Sr s w n k i l v W) (hk : k < n) (hn : n ≤ 60) (ht : Tr (w.heap.size + 1 + 1) W W1) (hr : RB W1 (w.heap.size + 1 + 1) s j) (hp : stp s i = some (p, j)) (hok : bo.okP p) :
    ∃ v' Y, (Builtin.append_ #[28, 28] 28 #[v, .slice (some ⟨W1.heap.size, 0, none⟩) 1 1]).run Tryz.prog (W1.alloc (.cells #[.string p.k, .string p.v, .bool p.g] 61)) = .ok v' Y ∧
      Y.cell? ⟨w.heap.size, 0, none⟩ = some v ∧ Y.frozen? ⟨w.heap.size, 0, none⟩ = false ∧ Sr s w n (k + 1) j (l ++ [p]) v' (Y.setCell ⟨w.heap.size, 0, none⟩ v') := by
  obtain ⟨i0, hi, hz0, hz1, hz2⟩ := gbs.infoP
  have hll : l.length ≤ 60 := by have := h.len; omega
  have hrl := (Array.getElem?_eq_some_iff.1 hr).1
  have hrow1 : W1.ownsRow (w.heap.size + 1 + 1 + 1) 61 3 v l.length (l.flatMap flP.c) := by
    refine h.row.kept (row := some (w.heap.size + 1 + 1)) ⟨ht.os, ht.tape, ht.output, ht.size, fun a ha hne => ht.block a ha (fun hc => hne (by rw [hc]))⟩ ?_
    cases hv : v.ownBlock with
    | none => exact .inl rfl
    | some g =>
      refine .inr (fun hc => ?_)
      have := (h.row.lt g hv).1
      injection hc with hc
      omega
  have hs1 := h.sb.tr ht
  obtain ⟨X, hX⟩ : ∃ X, W1.alloc (.cells #[.string p.k, .string p.v, .bool p.g] 61) = X := ⟨_, rfl⟩
  have hXs : X.heap.size = W1.heap.size + 1 := by rw [← hX]; simp
  have hxb : Below W1.heap.size W1 X := by rw [← hX]; exact (Below.refl _ _).alloc (Nat.le_refl _) _
  have hrowX : X.ownsRow (w.heap.size + 1 + 1 + 1) 61 3 v l.length (l.flatMap flP.c) := by rw [← hX]; exact hrow1.alloc _
  have hnew : X.heap[W1.heap.size]? = some (.cells #[.string p.k, .string p.v, .bool p.g] 61 (0, 0)) := by rw [← hX]; exact bnew W1 _ _
  have hbX := bstay hs1.b hxb (Array.getElem?_eq_some_iff.1 hs1.b).1
  have hoX := bstay hs1.o hxb (Array.getElem?_eq_some_iff.1 hs1.o).1
  have hrX : RB X (w.heap.size + 1 + 1) s j := hr.on hxb
  obtain ⟨v', Y, hrun, ho, hgr, _, _⟩ := run_append_own_at (P := Tryz.prog) X (w.heap.size + 1 + 1 + 1) 28 28 61 i0 (.agg #[.string ByteArray.empty, .string ByteArray.empty, .bool false]) 3 40 Tryz.underlying28 hi hz0 hz1 hz2 rfl (by decide) v l.length (l.flatMap flP.c) hrowX ⟨W1.heap.size, 0, none⟩ 1 1 [.string p.k, .string p.v, .bool p.g] rfl (fun a u hu => by rw [gbs.cpadd]; exact bcell hnew (by simpa using hu)) (by intro u hu; simp at hu; rcases hu with rfl | rfl | rfl <;> rfl) (by unfold maxLen; omega) (by omega) (by omega)
  have hne : ∀ a, a ≤ w.heap.size + 1 + 1 → some a ≠ v.ownBlock := by
    intro a ha hc
    have := (h.row.lt a hc.symm).1
    omega
  have hbY : Y.heap[w.heap.size]? = _ := (hgr.block _ (by omega) (hne _ (by omega))).trans hbX
  have hoY : Y.heap[w.heap.size + 1]? = _ := (hgr.block _ (by omega) (hne _ (by omega))).trans hoX
  have hrY : Y.heap[w.heap.size + 1 + 1]? = _ := (hgr.block _ (by omega) (hne _ (by omega))).trans hrX
  have hin := stp_in hs hp
  rw [← hX] at hrun
  have hbelX : Below w.heap.size w X := hs1.bel.trans (hxb.mono hs1.bel.size)
  have hbelY : Below w.heap.size w Y := hbelX.grown hgr hbelX.size (fun b hb => by have := (h.row.lt b hb).1; omega)
  refine ⟨v', Y, hrun, bcell hbY rfl, bfree hbY 0, ⟨⟨hbelY.setCell (Nat.le_refl _) _, bset hbY 0 v', ?_⟩, ?_, ?_, ?_, ?_, hin.1, hin.2.1, ?_⟩⟩
  · rw [Below.heap_setCell _ _ _ _ (by simp)]; exact hoY
  · unfold RB
    rw [Below.heap_setCell _ _ _ _ (by simp; omega)]; exact hrY
  · have h1 : (Y.setCell ⟨w.heap.size, 0, none⟩ v').ownsRow (w.heap.size + 1 + 1 + 1) 61 3 v' (l.length + 1) (l.flatMap flP.c ++ [.string p.k, .string p.v, .bool p.g]) := by
      have hbs : Tn Y (Y.setCell ⟨w.heap.size, 0, none⟩ v') (fun a => a = w.heap.size) := Tn.set (Tn.refl Y (fun a => a = w.heap.size)) (S := fun a => a = w.heap.size) rfl 0 v'
      refine ho.kept (row := some w.heap.size) ⟨hbs.os, hbs.tape, hbs.output, hbs.size, fun a ha hne => hbs.block a ha (fun hc => hne (by rw [hc]))⟩ ?_
      cases hv : v'.ownBlock with
      | none => exact .inl rfl
      | some g =>
        refine .inr (fun hc => ?_)
        have := (ho.lt g hv).1
        injection hc with hc
        omega
    rw [List.length_append, List.flatMap_append]
    simpa [flP.c] using h1
  · rw [List.length_append, h.len]; rfl
  · have h1 := left_yes (by have := h.left; rw [show n - k = (n - k - 1) + 1 by omega] at this; exact this) hp
    rw [show n - (k + 1) = n - k - 1 by omega]
    exact h1
  · intro e he
    rcases List.mem_append.1 he with he | he
    · exact h.ok e he
    · simp at he
      subst he
      exact hok
end Go.Proofs.YtoemkbooomgieaaGreatDoor.gim
