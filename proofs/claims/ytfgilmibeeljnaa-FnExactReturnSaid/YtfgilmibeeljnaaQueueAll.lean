/- A growing row of messages; slices.Clone, messageOk and handOk of the program. -/
import Derived.Test.YtfgilmibeeljnaaQueueCmp
import Derived.Test.YtfgilmibeeljnaaFlatOwn
import Derived.ArgAppend
import Derived.Lib.SliceRun
import Derived.Maps.AppendAt
namespace Go.Proofs.Ytfgilmibeeljnaa.qa
open Go.ChangeShapes Go.WideShapes Go.ChangeAt Go.RowKit Go.Proofs.Ytfgilmibeeljnaa.fl Go.Proofs.Ytfgilmibeeljnaa.qk
set_option linter.unusedVariables false

theorem infoM : ∃ i0, Try.prog.info? 38 = some i0 ∧ i0.zero = some (.agg #[.int .i64 0, .string ByteArray.empty, .string ByteArray.empty, .string ByteArray.empty, .bool false]) ∧ i0.size = 5 ∧ i0.bytes = 64 := by
  have h := flM.info
  cases hh : Try.prog.info? 38 with
  | none => rw [hh] at h; cases h
  | some i => rw [hh] at h; simp at h; exact ⟨i, rfl, h.1, h.2.1, h.2.2⟩
/-- messages in a row of its own above B, or none -/
def All (W : World) (B : Nat) (v : Value) (l : List flM.Ms) : Prop := (l = [] ∧ ∃ ao, v = .slice ao 0 0) ∨ ∃ g cap, v = .slice (some ⟨g, 0, none⟩) l.length cap ∧ W.ownsRow B 38 5 (.slice (some ⟨g, 0, none⟩) l.length cap) l.length (l.flatMap flM.c)
theorem All.form {W : World} {B : Nat} {v : Value} {l : List flM.Ms} (h : All W B v l) : ∃ ao cap, v = .slice ao l.length cap := by
  rcases h with ⟨rfl, ao, rfl⟩ | ⟨g, cap, rfl, _⟩
  · exact ⟨ao, 0, rfl⟩
  · exact ⟨_, cap, rfl⟩
theorem All.row {W : World} {B : Nat} {ao : Option Addr} {cap : Nat} {l : List flM.Ms} (h : All W B (.slice ao l.length cap) l) : Row flM.c 5 W W.heap.size ao l := by
  rcases h with ⟨rfl, _⟩ | ⟨g, cap', e, ho⟩
  · exact .inl rfl
  · cases e
    obtain ⟨a', c', e', hr⟩ := own_row flM.c_len ho
    cases e'
    exact hr
theorem All.on {W W' : World} {B : Nat} {v : Value} {l : List flM.Ms} (h : All W B v l) (hb : Below W.heap.size W W') : All W' B v l := by
  rcases h with h | ⟨g, cap, rfl, ho⟩
  · exact .inl h
  · exact .inr ⟨g, cap, rfl, ho.kept (row := none) ⟨hb.os, hb.tape, hb.output, hb.size, fun k hk _ => hb.block k hk⟩ (by simp [Value.ownBlock])⟩
theorem add0 (g j : Nat) : (⟨g, 0, none⟩ : Addr).add j = ⟨g, j, none⟩ := by unfold Addr.add; split <;> simp_all
theorem own_all {W : World} {B : Nat} {v : Value} {l : List flM.Ms} (hl : l ≠ []) (h : W.ownsRow B 38 5 v l.length (l.flatMap flM.c)) : All W B v l := by
  have hs := h
  obtain ⟨_, ⟨_, h0⟩ | ⟨g, cap, cur, rfl, _⟩⟩ := hs
  · exact absurd (List.eq_nil_of_length_eq_zero h0) hl
  · exact .inr ⟨g, cap, rfl, h⟩
theorem below_grown {W w' : World} {B : Nat} {r : Option Nat} (h : W.grownBy w' r) (hB : B ≤ W.heap.size) (hr : ∀ b, r = some b → B ≤ b) : Below B W w' := ⟨h.os, h.tape, h.output, h.size, fun k hk => h.block k (by omega) (fun e => by have := hr k e.symm; omega)⟩
/-- one more -/
theorem app_one {W : World} {B a : Nat} {v : Value} {l : List flM.Ms} (m : flM.Ms) (h : All W B v l) (hB : B ≤ W.heap.size) (hl : l.length ≤ 1048576) (hc : W.heap[a]? = some (.cells (flM.c m).toArray 38 (0, 0))) (ty : TypeId) :
    ∃ v' w', (Builtin.append_ #[27, 27] ty #[v, .slice (some ⟨a, 0, none⟩) 1 1]).run Try.prog W = .ok v' w' ∧ All w' B v' (l ++ [m]) ∧ Below B W w' := by
  obtain ⟨i0, hi, hz0, hz1, hz2⟩ := infoM
  have hnews : ∀ j u, (flM.c m)[j]? = some u → W.cell? ((⟨a, 0, none⟩ : Addr).add j) = some u := fun j u hu => by
    rw [add0]
    exact bcell hc (by simpa using hu)
  have h1 : ∀ u ∈ flM.c m, u.oneCell' = true := fun u hu => by simp [flM.c] at hu; rcases hu with rfl | rfl | rfl | rfl | rfl <;> rfl
  have hfl : (l ++ [m]).flatMap flM.c = l.flatMap flM.c ++ flM.c m := by rw [List.flatMap_append]; simp
  have hln : (l ++ [m]).length = l.length + 1 := by simp
  rcases h with ⟨rfl, ao, rfl⟩ | ⟨g, cap, rfl, ho⟩
  · cases ao with
    | none =>
      obtain ⟨v', w', hr, ho, hg, _⟩ := run_append_own_at (P := Try.prog) W B 27 ty 38 i0 (.agg #[.int .i64 0, .string ByteArray.empty, .string ByteArray.empty, .string ByteArray.empty, .bool false]) 5 64 Try.underlying27 hi hz0 hz1 hz2 rfl (by decide) (.slice none 0 0) 0 [] (World.ownsRow_nil W _ _ _) ⟨a, 0, none⟩ 1 1 (flM.c m) rfl hnews h1 (by unfold maxLen; omega) (by omega) hB
      exact ⟨v', w', hr, own_all (by simp) (by rw [hfl, hln]; simpa using ho), below_grown hg hB (fun b e => by simp [Value.ownBlock] at e)⟩
    | some b =>
      obtain ⟨v', w', hr, ho, hg⟩ := run_append_arg_grows (P := Try.prog) W 27 ty 38 i0 (.agg #[.int .i64 0, .string ByteArray.empty, .string ByteArray.empty, .string ByteArray.empty, .bool false]) 5 64 Try.underlying27 hi hz0 hz1 hz2 rfl (by decide) b 0 0 [] rfl (fun j u hu => by simp at hu) ⟨a, 0, none⟩ 1 1 (flM.c m) rfl hnews (by omega) (by unfold maxLen; omega) (by omega)
      refine ⟨v', w', hr, own_all (by simp) ?_, below_grown hg hB (fun b e => by cases e)⟩
      rw [hfl, hln]
      obtain ⟨k1, k2 | ⟨g, cap, cur, k3, k4, k5⟩⟩ := ho
      · simp at k2
      · exact ⟨by simpa using k1, .inr ⟨g, cap, cur, by simpa using k3, by omega, by simpa using k5⟩⟩
  · obtain ⟨v', w', hr, ho', hg, _⟩ := run_append_own_at (P := Try.prog) W B 27 ty 38 i0 (.agg #[.int .i64 0, .string ByteArray.empty, .string ByteArray.empty, .string ByteArray.empty, .bool false]) 5 64 Try.underlying27 hi hz0 hz1 hz2 rfl (by decide) _ l.length _ ho ⟨a, 0, none⟩ 1 1 (flM.c m) rfl hnews h1 (by unfold maxLen; omega) (by omega) hB
    exact ⟨v', w', hr, own_all (by simp) (by rw [hfl, hln]; exact ho'), below_grown hg hB (fun b e => by have := Option.some.inj e; subst this; exact (ho.lt g rfl).1)⟩
set_option maxRecDepth 100000 in
set_option maxHeartbeats 2000000 in
theorem clone_msgs (l : List flM.Ms) (a : Option Addr) (c : Nat) (w : World) (hl : l.length ≤ 1048576) (hS : Row flM.c 5 w w.heap.size a l) :
    Calls Try.prog 60 #[.slice a l.length c] w fun e w' => (∃ v, e = .returned v ∧ All w' w.heap.size v l) ∧ Below w.heap.size w w' := by
  obtain ⟨i0, hi, hz0, hz1, hz2⟩ := infoM
  cases a with
  | none =>
    obtain rfl : l = [] := by
      rcases hS with h | ⟨b, off, e, _⟩
      · exact h
      · cases e
    have hq := fun W => Go.Lib.run_eql_slice_nil (P := Try.prog) W 27 _ none 0 c 0 0 Try.underlying27
    simp only [Option.isNone] at hq
    go_enter Try.func60, Try.ntmps60
    go_wp2
    go_ret
    exact ⟨⟨_, rfl, .inl ⟨rfl, none, rfl⟩⟩, Below.refl _ _⟩
  | some ad =>
    have hnews : ∀ j u, (l.flatMap flM.c)[j]? = some u → w.cell? (ad.add j) = some u := fun j u hu => by
      rcases hS with h | ⟨b, off, e, hlt, hc⟩
      · subst h; simp at hu
      · cases e
        obtain ⟨i, e, r, h1, h2, rfl⟩ := flat_get flM.c_len l j u hu
        have := hc i e h1 r u h2
        rw [show (⟨b, off, none⟩ : Addr).add (i * 5 + r) = ⟨b, off + (i * 5 + r), none⟩ by unfold Addr.add; split <;> simp_all]
        rw [← Nat.add_assoc]
        exact this
    have hone : ∀ u ∈ l.flatMap flM.c, u.oneCell' = true := fun u hu => by
      obtain ⟨e, _, he⟩ := List.mem_flatMap.1 hu
      simp [flM.c] at he
      rcases he with rfl | rfl | rfl | rfl | rfl <;> rfl
    have hb0 : Below w.heap.size w (w.alloc (.cells #[] 38)) := (Below.refl _ _).alloc (Nat.le_refl _) _
    have hlt : ∀ j u, (l.flatMap flM.c)[j]? = some u → (w.alloc (.cells #[] 38)).cell? (ad.add j) = some u := fun j u hu => by
      have h := hnews j u hu
      rcases hS with h0 | ⟨b, off, e, hlt, _⟩
      · subst h0; simp at hu
      · cases e
        rw [show (⟨b, off, none⟩ : Addr).add j = ⟨b, off + j, none⟩ by unfold Addr.add; split <;> simp_all] at h ⊢
        exact (hb0.cell (p := ⟨b, off + j, none⟩) hlt).trans h
    have ho0 : (w.alloc (.cells #[] 38)).ownsRow w.heap.size 38 5 (.slice (some ⟨w.heap.size, 0, none⟩) 0 0) 0 [] := World.ownsRow_made w #[] 0 (Nat.le_refl _) (by unfold maxLen; omega) (by simp)
    have HO0 : Hid ((w.alloc (.cells #[] 38)).ownsRow w.heap.size 38 5 (.slice (some ⟨w.heap.size, 0, none⟩) 0 0) 0 []) := ho0
    have HN : Hid (∀ j u, (l.flatMap flM.c)[j]? = some u → (w.alloc (.cells #[] 38)).cell? (ad.add j) = some u) := hlt
    clear hnews hS ho0 hlt
    have hq := fun W => Go.Lib.run_eql_slice_nil (P := Try.prog) W 27 _ (some ad) l.length c 0 0 Try.underlying27
    simp only [Option.isNone] at hq
    go_enter Try.func60, Try.ntmps60
    go_wp2_with (at_builtin; refine wpList_append_own _ rfl _ _ 27 rfl w.heap.size 38 i0 (.agg #[.int .i64 0, .string ByteArray.empty, .string ByteArray.empty, .string ByteArray.empty, .bool false]) 5 64 Try.underlying27 hi hz0 hz1 hz2 rfl (by decide) _ 0 [] rfl (by exact HO0.out) ad l.length c (l.flatMap flM.c) rfl (flat_len flM.c_len l) (by exact HN.out) hone (by unfold maxLen; omega) (by omega) (by simp) ?_)
    intro v1 w1 hown1 hgrow1 hnil1
    obtain ⟨g1, c1, rfl⟩ : ∃ g1 c1, v1 = .slice (some ⟨g1, 0, none⟩) l.length c1 := by
      obtain ⟨_, ⟨rfl, h0⟩ | ⟨g, cap, cur, e, _⟩⟩ := hown1
      · exfalso
        first | exact hnil1 rfl | (have := hnil1.1 rfl; cases this.1)
      · exact ⟨_, _, by simpa using e⟩
    have HW : Hid (w1.ownsRow w.heap.size 38 5 (.slice (some ⟨g1, 0, none⟩) l.length c1) l.length (l.flatMap flM.c)) := by show w1.ownsRow _ _ _ _ _ _; simpa using hown1
    have hb1 : Below w.heap.size w w1 := hb0.grown hgrow1 (by simp) (fun b hb => by simp [Value.ownBlock] at hb; omega)
    clear hown1 hgrow1 hnil1
    go_wp2
    go_ret
    exact ⟨⟨_, rfl, .inr ⟨g1, c1, rfl, HW.out⟩⟩, hb1⟩
set_option maxRecDepth 100000 in
set_option maxHeartbeats 2000000 in
theorem impl_hand (o t : Int) (w : World) : Calls Try.prog 40 #[.int .i64 o, .int .i64 t] w fun e w' => e = .returned (.bool (decide (0 ≤ o ∧ o ≤ 1000) && decide (1 ≤ t ∧ t ≤ 1000000000))) ∧ w' = w := by
  by_cases h1 : 0 ≤ o <;> by_cases h2 : o ≤ 1000 <;> by_cases h3 : 1 ≤ t <;> by_cases h4 : t ≤ 1000000000
  all_goals
    go_enter Try.func40, Try.ntmps40
    go_wp2
    go_ret
    exact ⟨by simp [h1, h2, h3, h4], rfl⟩
set_option maxRecDepth 100000 in
set_option maxHeartbeats 2000000 in
theorem impl_msg (m : flM.Ms) (nx : Int) (w : World) (hm : m.x.size ≤ 1048576 ∧ m.k.size ≤ 1048576 ∧ m.b.size ≤ 1048576) :
    Calls Try.prog 61 #[.agg #[.int .i64 m.q, .string m.x, .string m.k, .string m.b, .bool m.a], .int .i64 nx] w fun e w' => e = .returned (.bool (mOk m nx)) ∧ Below w.heap.size w w' := by
  obtain ⟨q, x, k, b, a⟩ := m
  obtain ⟨h1, h2, h3⟩ := hm
  simp only at h1 h2 h3 ⊢
  have hnm := fun W => nm.impl_name x W h1
  have hky := fun W => ky.impl_key k W h2
  unfold mOk
  simp only
  have hb : Below w.heap.size w (w.alloc (.cells #[.int .i64 q, .string x, .string k, .string b, .bool a] 38)) := (Below.refl _ _).alloc (Nat.le_refl _) _
  generalize nm.good x = b2 at hnm ⊢
  generalize ky.good k = b3 at hky ⊢
  by_cases q1 : 1 ≤ q
  case neg =>
    have e1 : decide (1 ≤ q ∧ q ≤ nx - 1) = false := decide_eq_false (fun h => q1 h.1)
    rw [e1]
    go_enter Try.func61, Try.ntmps61
    go_wp2_with (first | (go_at_call 56; refine (hnm _).mono ?_; rintro e w2 ⟨rfl, hw2⟩; obtain rfl := hw2.symm) | (go_at_call 75; refine (hky _).mono ?_; rintro e w3 ⟨rfl, hw3⟩; obtain rfl := hw3.symm))
    go_ret
    exact ⟨by simp, hb⟩
  by_cases q2 : q < nx
  case neg =>
    have e1 : decide (1 ≤ q ∧ q ≤ nx - 1) = false := decide_eq_false (fun h => q2 (by omega))
    rw [e1]
    go_enter Try.func61, Try.ntmps61
    go_wp2_with (first | (go_at_call 56; refine (hnm _).mono ?_; rintro e w2 ⟨rfl, hw2⟩; obtain rfl := hw2.symm) | (go_at_call 75; refine (hky _).mono ?_; rintro e w3 ⟨rfl, hw3⟩; obtain rfl := hw3.symm))
    go_ret
    exact ⟨by simp, hb⟩
  have e1 : decide (1 ≤ q ∧ q ≤ nx - 1) = true := decide_eq_true ⟨q1, by omega⟩
  rw [e1]
  by_cases hx : x = ⟨#[]⟩
  · subst hx
    by_cases h30 : b.size ≤ 3000
    · have g1 : (b.size : Int) ≤ 3000 := by omega
      cases b3
      all_goals
        go_enter Try.func61, Try.ntmps61
        go_wp2_with (first | (go_at_call 56; refine (hnm _).mono ?_; rintro e w2 ⟨rfl, hw2⟩; obtain rfl := hw2.symm) | (go_at_call 75; refine (hky _).mono ?_; rintro e w3 ⟨rfl, hw3⟩; obtain rfl := hw3.symm))
        go_ret
        exact ⟨by first | (simp [h30]; done) | (simp [h30, g1]; done) | (simp [h30]; omega), hb⟩
    · have g1 : ¬ (b.size : Int) ≤ 3000 := by omega
      cases b3
      all_goals
        go_enter Try.func61, Try.ntmps61
        go_wp2_with (first | (go_at_call 56; refine (hnm _).mono ?_; rintro e w2 ⟨rfl, hw2⟩; obtain rfl := hw2.symm) | (go_at_call 75; refine (hky _).mono ?_; rintro e w3 ⟨rfl, hw3⟩; obtain rfl := hw3.symm))
        go_ret
        exact ⟨by first | (simp [h30]; done) | (simp [h30, g1]; done) | (simp [h30]; omega), hb⟩
  · have hx2 : (x.toList == []) = false := by simp; exact ne_nil hx
    by_cases h30 : b.size ≤ 3000
    · have g1 : (b.size : Int) ≤ 3000 := by omega
      cases b2 <;> cases b3
      all_goals
        go_enter Try.func61, Try.ntmps61
        go_wp2_with (first | (go_at_call 56; refine (hnm _).mono ?_; rintro e w2 ⟨rfl, hw2⟩; obtain rfl := hw2.symm) | (go_at_call 75; refine (hky _).mono ?_; rintro e w3 ⟨rfl, hw3⟩; obtain rfl := hw3.symm))
        go_ret
        exact ⟨by first | (simp [h30, hx]; done) | (simp [h30, hx]; omega), hb⟩
    · have g1 : ¬ (b.size : Int) ≤ 3000 := by omega
      cases b2 <;> cases b3
      all_goals
        go_enter Try.func61, Try.ntmps61
        go_wp2_with (first | (go_at_call 56; refine (hnm _).mono ?_; rintro e w2 ⟨rfl, hw2⟩; obtain rfl := hw2.symm) | (go_at_call 75; refine (hky _).mono ?_; rintro e w3 ⟨rfl, hw3⟩; obtain rfl := hw3.symm))
        go_ret
        exact ⟨by first | (simp [h30, hx]; done) | (simp [h30, hx]; omega), hb⟩
end Go.Proofs.Ytfgilmibeeljnaa.qa
