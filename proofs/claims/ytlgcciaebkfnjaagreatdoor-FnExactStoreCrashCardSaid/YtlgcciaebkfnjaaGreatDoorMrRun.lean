/- The laws' marks in lists of runs: laid, and held. -/
import Derived.Test.YtlgcciaebkfnjaaGreatDoorMrPair
import Derived.Test.YtlgcciaebkfnjaaGreatDoorRunRows
namespace Go.Proofs.YtlgcciaebkfnjaaGreatDoor.mrR
open Go.ChangeShapes Go.WideShapes Go.ChangeAt Go.RowKit Go.Proofs.YtlgcciaebkfnjaaGreatDoor.fl Go.Proofs.YtlgcciaebkfnjaaGreatDoor.fo Go.Proofs.YtlgcciaebkfnjaaGreatDoor.rn
set_option linter.unusedVariables false

theorem blk_len {α β : Type} {a : Option Addr} {l : List α} {l' : List β} {k : Nat} (h : blk a l k) (hl : l.length = l'.length) : blk a l' k := by
  obtain ⟨h0, h1⟩ := h
  refine ⟨fun e => h0 ?_, h1⟩
  rw [e] at hl
  exact List.length_eq_zero_iff.1 hl
theorem bulk_pre {α : Type} (f : α → Nat) : ∀ (k : Nat) (l : List α), bulk f (l.take k) ≤ bulk f l
  | 0, l => by simp [bulk]
  | k + 1, [] => by simp
  | k + 1, x :: r => by
    have := bulk_pre f k r
    simp only [List.take_succ_cons, bulk]
    omega
/-- a row of pairs of its own, or none -/
def MP (w : World) (B : Nat) (a : Option Addr) (l : List flP.Pr) : Prop := Mine flP.c 3 49 w B a l

set_option maxRecDepth 100000 in
theorem mark_none (a : Option Addr) (c k0 : Nat) (w : World) (hk0 : k0 ≤ 1000000000000) :
    Calls Tryz.prog 108 #[.slice a 0 c, .int .i64 k0] w fun e w' => e = .returned (.int .i64 (k0 : Nat)) ∧ w' = w := by
  go_enter Tryz.func108, Tryz.ntmps108
  go_wp2
  refine wp_loop_rounds 1 ?_
  rw [rounds_succ]
  go_wp2
  go_ret
  exact ⟨rfl, rfl⟩
set_option maxRecDepth 100000 in
theorem held_none (a : Option Addr) (c k0 : Nat) (w : World) (hk0 : k0 ≤ 1000000000000) :
    Calls Tryz.prog 110 #[.slice a 0 c, .int .i64 k0] w fun e w' => e = .returned (.int .i64 (k0 : Nat)) ∧ w' = w := by
  go_enter Tryz.func110, Tryz.ntmps110
  go_wp2
  refine wp_loop_rounds 1 ?_
  rw [rounds_succ]
  go_wp2
  go_ret
  exact ⟨rfl, rfl⟩
theorem mark_any (l : List flP.Pr) (a : Option Addr) (c k0 B : Nat) (w : World) (hl : l.length ≤ 2000000) (hk0 : 1 ≤ k0 ∧ k0 ≤ 1000000000000) (h : MP w B a l) :
    Calls Tryz.prog 108 #[.slice a l.length c, .int .i64 k0] w fun e w' => e = .returned (.int .i64 (k0 + 3 * l.length : Nat)) ∧ Tn w w' (blk a l) ∧ MP w' B a (mrP.mks k0 l.length) := by
  by_cases hn : l = []
  · subst hn
    refine (mark_none a c k0 w hk0.2).mono ?_
    rintro e w' ⟨rfl, rfl⟩
    exact ⟨rfl, Tn.refl _ _, .inl rfl⟩
  · rcases h with h | ⟨g, off, rfl, hB, h⟩
    · exact absurd h hn
    · refine (mrP.mark_all l.length g off c k0 w hl hk0 (h.any (mrP.mks_len _ _))).mono ?_
      rintro e w' ⟨rfl, ht, ho⟩
      refine ⟨rfl, ht.wide (fun k hk => ⟨hn, g, off, rfl, hk⟩), .inr ⟨g, off, rfl, hB, ?_⟩⟩
      rw [mrP.mks_len]
      exact ho
theorem held_any (n : Nat) (a : Option Addr) (c k0 B : Nat) (w : World) (hl : n ≤ 2000000) (hk0 : 1 ≤ k0 ∧ k0 ≤ 1000000000000) (h : MP w B a (mrP.mks k0 n)) :
    Calls Tryz.prog 110 #[.slice a n c, .int .i64 k0] w fun e w' => e = .returned (.int .i64 (k0 + 3 * n : Nat)) ∧ Below w.heap.size w w' := by
  by_cases hn : n = 0
  · subst hn
    refine (held_none a c k0 w hk0.2).mono ?_
    rintro e w' ⟨rfl, rfl⟩
    exact ⟨rfl, Below.refl _ _⟩
  · rcases h with h | ⟨g, off, rfl, hB, h⟩
    · have := congrArg List.length h
      rw [mrP.mks_len] at this
      exact absurd this hn
    · rw [mrP.mks_len] at h
      exact mrP.held_all n g off c k0 w hl hk0 h
/-- how many pairs -/
def ln (r : Rn) : Nat := r.l.length
/-- the blocks of the runs -/
def bks (rs : List Rn) : Nat → Prop := fun k => ∃ r ∈ rs, blk r.a r.l k
/-- no block is of two runs -/
def Apart (rs : List Rn) : Prop := ∀ (i j : Nat) (r s : Rn), rs[i]? = some r → rs[j]? = some s → i ≠ j → ∀ k, blk r.a r.l k → ¬ blk s.a s.l k
/-- all runs bear their marks -/
def Mkd (w : World) (B k0 : Nat) (rs : List Rn) (n : Nat) : Prop := ∀ (i : Nat) (r : Rn), rs[i]? = some r → i < n → MP w B r.a (mrP.mks (k0 + 3 * bulk ln (rs.take i)) r.l.length)
theorem step {w w1 : World} {B k0 k : Nat} {rs : List Rn} {r : Rn} (hr : rs[k]? = some r) (ha : Apart rs) (h : Mkd w B k0 rs k) (ht : Tn w w1 (blk r.a r.l)) (hk : MP w1 B r.a (mrP.mks (k0 + 3 * bulk ln (rs.take k)) r.l.length)) : Mkd w1 B k0 rs (k + 1) := by
  intro i s hs hi
  by_cases e : i = k
  · subst e
    rw [hr] at hs
    cases hs
    exact hk
  · exact Mine.kept (h i s hs (by omega)) ht (fun x hx => ha i k s r hs hr e x (blk_len hx (mrP.mks_len _ _)))
theorem stay {w w1 : World} {B k : Nat} {rs : List Rn} {r : Rn} (hr : rs[k]? = some r) (ha : Apart rs) (h : ∀ (i : Nat) (s : Rn), rs[i]? = some s → k ≤ i → MP w B s.a s.l) (ht : Tn w w1 (blk r.a r.l)) : ∀ (i : Nat) (s : Rn), rs[i]? = some s → k + 1 ≤ i → MP w1 B s.a s.l :=
  fun i s hs hi => Mine.kept (h i s hs (by omega)) ht (fun x hx => ha i k s r hs hr (by omega) x hx)

set_option maxRecDepth 100000 in
set_option maxHeartbeats 2000000 in
theorem mark_runs (rs : List Rn) (a : Option Addr) (c k0 B : Nat) (w : World) (hl : rs.length ≤ 2000000) (ht : bulk ln rs ≤ 2000000) (hk0 : 1 ≤ k0 ∧ k0 ≤ 100000000000) (hrow : Row cR 1 w w.heap.size a rs) (hnb : ∀ g off, a = some ⟨g, off, none⟩ → ¬ bks rs g) (hm : ∀ r ∈ rs, MP w B r.a r.l) (hap : Apart rs) :
    Calls Tryz.prog 109 #[.slice a rs.length c, .int .i64 k0] w fun e w' => e = .returned (.int .i64 (k0 + 3 * bulk ln rs : Nat)) ∧ Tn w w' (bks rs) ∧ Mkd w' B k0 rs rs.length := by
  rcases hrow with rfl | ⟨b, off, rfl, hlt, hc⟩
  · go_enter Tryz.func109, Tryz.ntmps109
    go_wp2
    refine wp_loop_rounds 1 ?_
    rw [rounds_succ]
    go_wp2
    go_ret
    exact ⟨by simp [bulk], Tn.refl _ _, fun i r hr => by simp at hr⟩
  · have HC : Hid (∀ (i : Nat) (e : Rn), rs[i]? = some e → ∀ (j : Nat) (v : Value), (cR e)[j]? = some v → w.cell? ⟨b, off + i * 1 + j, none⟩ = some v) := hc
    have HNB : Hid (¬ bks rs b) := hnb b off rfl
    have HM : Hid (∀ r ∈ rs, MP w B r.a r.l) := hm
    have HAP : Hid (Apart rs) := hap
    have HT : Hid (bulk ln rs ≤ 2000000) := ht
    clear hc hnb hm hap ht
    go_enter Tryz.func109, Tryz.ntmps109
    go_wp2
    go_loopw [1, 5] (fun y x wr => ∃ k : Nat, k ≤ rs.length ∧ x = .int .i64 k ∧ y = .int .i64 (k0 + 3 * bulk ln (rs.take k) : Nat) ∧ Tn w wr (bks rs) ∧ Hid (Mkd wr B k0 rs k) ∧ Hid (∀ (i : Nat) (s : Rn), rs[i]? = some s → k ≤ i → MP wr B s.a s.l)) (fun _ x _ => rs.length - (intOf x).toNat)
    case atStart => exact ⟨0, Nat.zero_le _, rfl, by simp [bulk], Tn.refl _ _, fun i r _ hi => absurd hi (Nat.not_lt_zero _), fun i s hs _ => HM.out s (List.mem_of_getElem? hs)⟩
    case round =>
      obtain ⟨k, hk, rfl, rfl, hT, hM, hS⟩ := hrel
      by_cases hkl : k < rs.length
      · have HG : Hid (rs[k]? = some rs[k]) := List.getElem?_eq_getElem hkl
        have HBK : Hid (bulk ln (rs.take (k + 1)) = bulk ln (rs.take k) + ln rs[k]) := bulk_take ln hkl
        have hle : bulk ln (rs.take (k + 1)) ≤ 2000000 := Nat.le_trans (bulk_pre ln (k + 1) rs) HT.out
        have hmem := List.getElem_mem hkl
        obtain ⟨⟨ra, rc, rl⟩, he⟩ : ∃ e, rs[k] = e := ⟨_, rfl⟩
        rw [he] at HBK HG hmem
        have hone := hS.out k _ HG.out (Nat.le_refl _)
        rw [HBK.out] at hle
        have hlr : ln ⟨ra, rc, rl⟩ = rl.length := rfl
        have c0 : wr.cell? ⟨b, off + k, none⟩ = some (.slice ra rl.length rc) := by
          have h5 := HC.out k _ HG.out 0 _ rfl
          rw [Nat.mul_one, Nat.add_zero] at h5
          have h6 := hT.block b hlt HNB.out
          simp only [World.cell?, h6] at h5 ⊢
          exact h5
        obtain ⟨m, hm⟩ : ∃ m, k0 + 3 * bulk ln (rs.take k) = m := ⟨_, rfl⟩
        have hmk := mark_any rl ra rc m B wr (by omega) (by omega) hone
        have HMM : Hid (k0 + 3 * bulk ln (rs.take k) = m) := hm
        have HEN : Hid (k0 + 3 * bulk ln (rs.take (k + 1)) = m + 3 * rl.length) := by show _ = _; rw [HBK.out, hlr, ← hm]; omega
        rw [hm]
        clear hm hone he hle hlr
        go_wp2_with (go_at_call 108; refine hmk.mono ?_; rintro e w1 ⟨rfl, hT1, hP1⟩)
        go_roundw
        case rel => exact ⟨k + 1, by omega, by go_num, by rw [HEN.out]; congr 1, hT.trans (hT1.wide (fun x hx => ⟨_, hmem, hx⟩)), step HG.out HAP.out hM.out hT1 (by rw [HMM.out]; exact hP1), stay HG.out HAP.out hS.out hT1⟩
        case measure => simp [intOf]; omega
      · obtain rfl : k = rs.length := by omega
        rw [List.take_length]
        go_wp2
        go_ret
        exact ⟨rfl, hT, hM.out⟩

set_option maxRecDepth 100000 in
set_option maxHeartbeats 2000000 in
theorem held_runs (rs : List Rn) (a : Option Addr) (c k0 B : Nat) (w : World) (hl : rs.length ≤ 2000000) (ht : bulk ln rs ≤ 2000000) (hk0 : 1 ≤ k0 ∧ k0 ≤ 100000000000) (hrow : Row cR 1 w w.heap.size a rs) (hm : Mkd w B k0 rs rs.length) :
    Calls Tryz.prog 111 #[.slice a rs.length c, .int .i64 k0] w fun e w' => e = .returned (.int .i64 (k0 + 3 * bulk ln rs : Nat)) ∧ Below w.heap.size w w' := by
  rcases hrow with rfl | ⟨b, off, rfl, hlt, hc⟩
  · go_enter Tryz.func111, Tryz.ntmps111
    go_wp2
    refine wp_loop_rounds 1 ?_
    rw [rounds_succ]
    go_wp2
    go_ret
    exact ⟨by simp [bulk], Below.refl _ _⟩
  · have HC : Hid (∀ (i : Nat) (e : Rn), rs[i]? = some e → ∀ (j : Nat) (v : Value), (cR e)[j]? = some v → w.cell? ⟨b, off + i * 1 + j, none⟩ = some v) := hc
    have HM : Hid (Mkd w B k0 rs rs.length) := hm
    have HT : Hid (bulk ln rs ≤ 2000000) := ht
    clear hc hm ht
    go_enter Tryz.func111, Tryz.ntmps111
    go_wp2
    go_loopw [1, 5] (fun y x wr => ∃ k : Nat, k ≤ rs.length ∧ x = .int .i64 k ∧ y = .int .i64 (k0 + 3 * bulk ln (rs.take k) : Nat) ∧ Below w.heap.size w wr) (fun _ x _ => rs.length - (intOf x).toNat)
    case atStart => exact ⟨0, Nat.zero_le _, rfl, by simp [bulk], Below.refl _ _⟩
    case round =>
      obtain ⟨k, hk, rfl, rfl, hbel⟩ := hrel
      by_cases hkl : k < rs.length
      · have HG : Hid (rs[k]? = some rs[k]) := List.getElem?_eq_getElem hkl
        have HBK : Hid (bulk ln (rs.take (k + 1)) = bulk ln (rs.take k) + ln rs[k]) := bulk_take ln hkl
        have hle : bulk ln (rs.take (k + 1)) ≤ 2000000 := Nat.le_trans (bulk_pre ln (k + 1) rs) HT.out
        obtain ⟨⟨ra, rc, rl⟩, he⟩ : ∃ e, rs[k] = e := ⟨_, rfl⟩
        rw [he] at HBK HG
        have hone : MP wr B ra (mrP.mks (k0 + 3 * bulk ln (rs.take k)) rl.length) := Mine.below (HM.out k _ HG.out hkl) hbel
        rw [HBK.out] at hle
        have hlr : ln ⟨ra, rc, rl⟩ = rl.length := rfl
        have c0 : wr.cell? ⟨b, off + k, none⟩ = some (.slice ra rl.length rc) := (hbel.cell (p := ⟨b, off + k, none⟩) hlt).trans (by have := HC.out k _ HG.out 0 _ rfl; simpa using this)
        obtain ⟨m, hm⟩ : ∃ m, k0 + 3 * bulk ln (rs.take k) = m := ⟨_, rfl⟩
        rw [hm] at hone
        have hmk := held_any rl.length ra rc m B wr (by omega) (by omega) hone
        have HEN : Hid (k0 + 3 * bulk ln (rs.take (k + 1)) = m + 3 * rl.length) := by show _ = _; rw [HBK.out, hlr, ← hm]; omega
        have hnn : ¬ ((m + 3 * rl.length : Nat) : Int) < 0 := by omega
        rw [hm]
        clear hm hone he hle hlr
        go_wp2_with (go_at_call 110; refine hmk.mono ?_; rintro e w1 ⟨rfl, hb1⟩)
        go_roundw
        case rel => exact ⟨k + 1, by omega, by go_num, by rw [HEN.out]; congr 1, hbel.trans (hb1.mono hbel.size)⟩
        case measure => simp [intOf]; omega
      · obtain rfl : k = rs.length := by omega
        rw [List.take_length]
        go_wp2
        go_ret
        exact ⟨rfl, hbel⟩
end Go.Proofs.YtlgcciaebkfnjaaGreatDoor.mrR
