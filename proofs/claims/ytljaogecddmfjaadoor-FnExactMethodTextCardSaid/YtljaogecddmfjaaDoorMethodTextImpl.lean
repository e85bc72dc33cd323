/- The program's MethodText, out of its writer's words and the library's Join; it lays new memory alone. -/
import Derived.Test.YtljaogecddmfjaaDoorMethodImpl
import Derived.Test.YtljaogecddmfjaaDoorJoinWalks
namespace Go.Proofs.YtljaogecddmfjaaDoor.mt
set_option linter.unusedVariables false
open Go.ChangeShapes Go.WideShapes Go.ChangeAt Go.RowKit Go.Proofs.YtljaogecddmfjaaDoor.ls Go.Proofs.YtljaogecddmfjaaDoor.me Go.Proofs.YtljaogecddmfjaaDoor.mp Go.Proofs.YtljaogecddmfjaaDoor.wm Go.Proofs.YtljaogecddmfjaaDoor.wd Go.Proofs.YtljaogecddmfjaaDoor.wt Go.Proofs.YtljaogecddmfjaaDoor.mi Go.Proofs.YtljaogecddmfjaaDoor.mx

theorem words_ok (f : List UInt8) : ∀ (ts : List ByteArray) (ns : List Int), okL f ts ns = true → (∀ x ∈ ns, (Lit.int .i64 x).wf = true) → (wordsL f ts ns).length ≤ f.length ∧ ∀ x ∈ wordsL f ts ns, x.size ≤ 1000 := by
  induction f with
  | nil => intro ts ns _ _; simp [wordsL]
  | cons c f ih =>
    intro ts ns h hn
    by_cases hc : c = 115
    · subst hc
      obtain ⟨x, r, rfl, hx, h'⟩ := pm.okL_s h
      obtain ⟨h1, h2⟩ := ih r ns h' hn
      have he : (eqTo x).size = 1 + x.size := by unfold eqTo; rw [ByteArray.size_append]; rfl
      simp only [wordsL, if_true, List.length_cons, List.mem_cons]
      refine ⟨by omega, ?_⟩
      rintro y (rfl | hy)
      · omega
      · exact h2 y hy
    · obtain ⟨x, r, rfl, hx, h'⟩ := pm.okL_n hc h
      obtain ⟨h1, h2⟩ := ih ts r h' (fun y hy => hn y (by simp [hy]))
      obtain ⟨b1, b2⟩ := bounds_i64 (hn x (by simp))
      have hd := dec_size x b1 b2
      simp only [wordsL, hc, if_false, List.length_cons, List.mem_cons]
      refine ⟨by omega, ?_⟩
      rintro y (rfl | hy)
      · omega
      · exact h2 y hy

theorem join_none (a : Option Addr) (c : Nat) (w : World) : Calls Tryd.prog 46 #[.slice a 0 c, .string ⟨#[32]⟩] w fun e w' => e = .returned (.string ⟨#[]⟩) ∧ w' = w := by
  go_enter Tryd.func46, Tryd.ntmps46
  go_wp2
  go_ret
  exact ⟨rfl, rfl⟩

/-- Join of the writer's words -/
theorem joined (c i : Int) (ts : List ByteArray) (ns : List Int) (wc : (Lit.int .i64 c).wf = true) (wi : (Lit.int .i64 i).wf = true) (hn : ∀ x ∈ ns, (Lit.int .i64 x).wf = true) (B : Nat) (v : Value) (w : World) (h : w.ownsRow B 9 1 v (outW c i ts ns).length ((outW c i ts ns).map Value.string)) :
    Calls Tryd.prog 46 #[v, .string ⟨#[32]⟩] w fun e w' => e = .returned (.string (outT c i ts ns)) ∧ Below w.heap.size w w' := by
  cases hok : ok c i ts ns with
  | false =>
    have h0 : outW c i ts ns = [] := by unfold outW; rw [hok]; rfl
    have ht : outT c i ts ns = ⟨#[]⟩ := by unfold outT; rw [hok]; rfl
    rw [h0] at h
    have hv : ∃ a c, v = .slice a 0 c := by
      obtain ⟨_, ⟨rfl, _⟩ | ⟨g, cap, cur, rfl, _⟩⟩ := h
      · exact ⟨none, 0, rfl⟩
      · exact ⟨_, cap, rfl⟩
    obtain ⟨a, c', rfl⟩ := hv
    refine (join_none a c' w).mono ?_
    rintro e _ ⟨rfl, rfl⟩
    exact ⟨by rw [ht], Below.refl _ _⟩
  | true =>
    have hW : outW c i ts ns = decOf c :: decOf i :: wordsL (F c i) ts ns := by unfold outW; rw [hok]; rfl
    have hT : outT c i ts ns = decOf c ++ rest (decOf i :: wordsL (F c i) ts ns) := by
      unfold outT
      rw [hok, if_pos rfl]
      simp only [rest]
      exact spell_num _ _ _
    have hL : okL (F c i) ts ns = true := by unfold ok at hok; simp only [Bool.and_eq_true] at hok; exact hok.2
    obtain ⟨l1, l2⟩ := words_ok (F c i) ts ns hL hn
    have l5 := F_length c i
    obtain ⟨b1, b2⟩ := bounds_i64 wc
    obtain ⟨b3, b4⟩ := bounds_i64 wi
    have s1 := dec_size c b1 b2
    have s2 := dec_size i b3 b4
    rw [hW] at h
    obtain ⟨_, ⟨_, h0⟩ | ⟨g, cap, cur, rfl, _, hc, hcap, _, _, htk⟩⟩ := id h
    · simp at h0
    · refine (jw.join (decOf c) (decOf i :: wordsL (F c i) ts ns) g cap w ?_ (Array.getElem?_eq_some_iff.1 hc).1 (by simp) (by simp; omega) (by omega) ?_ (by simpa using hcap)).mono ?_
      · intro j x hj
        have hcells := h.cells (g := g) rfl j (.string x) (by rw [List.getElem?_map, hj]; rfl)
        have e : (⟨g, 0, none⟩ : Addr).add j = ⟨g, j, none⟩ := by unfold Addr.add; split <;> simp_all
        rwa [e] at hcells
      · intro x hx
        simp only [List.mem_cons] at hx
        rcases hx with rfl | hx
        · omega
        · exact l2 x hx
      · rintro e w' ⟨rfl, hb⟩
        exact ⟨by rw [hT], hb⟩

theorem impl_text (c i : Int) (ts : List ByteArray) (ns : List Int) (ta na : Option Addr) (tc nc : Nat) (w : World) (h : M w c i ts ns ta na tc nc) (ht : Tab w) :
    Calls Tryd.prog 21 #[.agg #[.int .i64 c, .int .i64 i, .slice ta ts.length tc, .slice na ns.length nc]] w fun e w' => e = .returned (.string (outT c i ts ns)) ∧ Below w.heap.size w w' := by
  have hb : Below w.heap.size w (w.alloc (.cells #[.int .i64 c, .int .i64 i, .slice ta ts.length tc, .slice na ns.length nc] 27)) := (Below.refl _ _).alloc (Nat.le_refl _) _
  have hw := write c i ts ns ta na tc nc _ (h.on hb) (tab_on ht hb)
  have HJ : Hid (∀ (B : Nat) (v : Value) (W : World), W.ownsRow B 9 1 v (outW c i ts ns).length ((outW c i ts ns).map Value.string) → Calls Tryd.prog 46 #[v, .string ⟨#[32]⟩] W fun e w' => e = .returned (.string (outT c i ts ns)) ∧ Below W.heap.size W w') := fun B v W hh => joined c i ts ns h.wc h.wi h.nw B v W hh
  clear h ht
  go_enter Tryd.func21, Tryd.ntmps21
  go_wp2_with (first | (go_at_call 34; refine hw.mono ?_; rintro e w1 ⟨a1, a2, a3, l1, l2, l3, c1, c2, c3, rfl, hown, hb1⟩; clear hw) | (go_at_call 46; refine (HJ.out _ _ _ (hown.alloc _)).mono ?_; rintro e w2 ⟨rfl, hb2⟩))
  go_ret
  have hbw := hb.trans (hb1.mono (by simp))
  have hal := hbw.alloc (o := .cells #[.slice a1 l1 c1, .slice a2 l2 c2, .string (outB c i ts ns), .slice a3 l3 c3] 55) hbw.size
  exact ⟨rfl, hal.trans (hb2.mono (by have := hbw.size; simp; omega))⟩
end Go.Proofs.YtljaogecddmfjaaDoor.mt
