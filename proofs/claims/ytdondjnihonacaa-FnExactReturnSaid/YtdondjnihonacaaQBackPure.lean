/- Messages put back in their places: ascending, and the same as all of them sorted. -/
import Derived.Test.YtdondjnihonacaaQDropPure
import Derived.Test.YtdondjnihonacaaQPushImpl
namespace Go.Proofs.Ytdondjnihonacaa.qbk
open Go.ChangeShapes Go.WideShapes Go.ChangeAt Go.RowKit Go.Proofs.Ytdondjnihonacaa.fl Go.Proofs.Ytdondjnihonacaa.qsp Go.Proofs.Ytdondjnihonacaa.qdp
set_option linter.unusedVariables false

def again (h : flH.Hd) : flM.Ms := ⟨h.m.q, h.m.x, h.m.k, h.m.b, true⟩
/-- where a message goes -/
def at_ (l : List flM.Ms) (q : Int) : Nat := (l.takeWhile fun e => decide (e.q < q)).length
def back (l : List flM.Ms) (m : flM.Ms) : List flM.Ms := l.take (at_ l m.q) ++ [m] ++ l.drop (at_ l m.q)
def backs (l : List flM.Ms) (hs : List flH.Hd) : List flM.Ms := hs.foldl (fun l h => back l (again h)) l
theorem at_le (l : List flM.Ms) (q : Int) : at_ l q ≤ l.length := by unfold at_; exact (List.takeWhile_sublist _).length_le
theorem back_len (l : List flM.Ms) (m : flM.Ms) : (back l m).length = l.length + 1 := by
  have := at_le l m.q
  simp [back]
  omega
theorem back_perm (l : List flM.Ms) (m : flM.Ms) : (back l m).Perm (l ++ [m]) := by
  unfold back
  rw [List.append_assoc]
  refine (List.Perm.append_left _ List.perm_append_comm).trans ?_
  rw [← List.append_assoc, List.take_append_drop]
theorem backs_snoc (l : List flM.Ms) (hs : List flH.Hd) (h : flH.Hd) : backs l (hs ++ [h]) = back (backs l hs) (again h) := by unfold backs; rw [List.foldl_append]; rfl
theorem backs_perm (l : List flM.Ms) (hs : List flH.Hd) : (backs l hs).Perm (l ++ hs.map again) := by
  induction hs generalizing l with
  | nil => simp [backs]
  | cons h t ih =>
    have e : backs l (h :: t) = backs (back l (again h)) t := rfl
    rw [e]
    refine (ih _).trans ?_
    have e2 : l ++ (h :: t).map again = (l ++ [again h]) ++ t.map again := by simp
    rw [e2]
    exact (back_perm l (again h)).append_right _
theorem backs_len (l : List flM.Ms) (hs : List flH.Hd) : (backs l hs).length = l.length + hs.length := by rw [(backs_perm l hs).length_eq]; simp
theorem at_lt {l : List flM.Ms} {q : Int} {k : Nat} (hk : k < at_ l q) : ∃ e, l[k]? = some e ∧ e.q < q := by
  induction l generalizing k with
  | nil => simp [at_] at hk
  | cons a l ih =>
    by_cases ha : a.q < q
    · cases k with
      | zero => exact ⟨a, rfl, ha⟩
      | succ k =>
        have : at_ (a :: l) q = at_ l q + 1 := by simp [at_, ha]
        obtain ⟨e, h1, h2⟩ := ih (k := k) (by omega)
        exact ⟨e, by simpa using h1, h2⟩
    · have : at_ (a :: l) q = 0 := by simp [at_, ha]
      omega
theorem at_not {l : List flM.Ms} {q : Int} {e : flM.Ms} (he : l[at_ l q]? = some e) : ¬ e.q < q := by
  induction l with
  | nil => simp at he
  | cons a l ih =>
    by_cases ha : a.q < q
    · have h1 : at_ (a :: l) q = at_ l q + 1 := by simp [at_, ha]
      rw [h1] at he
      exact ih (by simpa using he)
    · have h1 : at_ (a :: l) q = 0 := by simp [at_, ha]
      rw [h1] at he
      simp at he
      subst he
      exact ha
/-- the walk of l05Back: a place is the one where the first k are less and the next is not -/
theorem at_of {l : List flM.Ms} {q : Int} {k : Nat} (h1 : ∀ i e, i < k → l[i]? = some e → e.q < q) (h2 : ∀ e, l[k]? = some e → ¬ e.q < q) (hk : k ≤ l.length) : at_ l q = k := by
  rcases Nat.lt_trichotomy (at_ l q) k with h | h | h
  · have hlt : at_ l q < l.length := by omega
    exact absurd (h1 _ _ h (List.getElem?_eq_getElem hlt)) (at_not (List.getElem?_eq_getElem hlt))
  · exact h
  · obtain ⟨e, h3, h4⟩ := at_lt h
    exact absurd h4 (h2 e h3)
def Up (l : List flM.Ms) : Prop := l.Pairwise fun a b => a.q < b.q
theorem back_up {l : List flM.Ms} {m : flM.Ms} (hl : Up l) (hm : ∀ e ∈ l, e.q ≠ m.q) : Up (back l m) := by
  have hsplit : l.take (at_ l m.q) ++ l.drop (at_ l m.q) = l := List.take_append_drop _ _
  have hl2 := hl
  unfold Up at hl2
  rw [← hsplit, List.pairwise_append] at hl2
  obtain ⟨ha, hb, hab⟩ := hl2
  have h1 : ∀ e ∈ l.take (at_ l m.q), e.q < m.q := fun e he => by
    obtain ⟨i, hi⟩ := List.mem_iff_getElem?.1 he
    have hlt := (List.getElem?_eq_some_iff.1 hi).1
    rw [List.length_take] at hlt
    obtain ⟨e', h3, h4⟩ := at_lt (l := l) (q := m.q) (k := i) (by omega)
    rw [List.getElem?_take_of_lt (by omega), h3] at hi
    cases hi
    exact h4
  have h2 : ∀ e ∈ l.drop (at_ l m.q), m.q < e.q := fun e he => by
    have hge : ¬ e.q < m.q := by
      cases hd : l.drop (at_ l m.q) with
      | nil => rw [hd] at he; cases he
      | cons f t =>
        have hf : l[at_ l m.q]? = some f := by
          have := congrArg (fun x => x[0]?) hd
          simpa using this
        have hfn := at_not hf
        rw [hd] at he
        rcases List.mem_cons.1 he with rfl | he
        · exact hfn
        · rw [hd] at hb
          have := (List.pairwise_cons.1 hb).1 e he
          omega
    have := hm e (List.mem_of_mem_drop he)
    omega
  unfold Up back
  rw [List.append_assoc, List.pairwise_append]
  refine ⟨ha, List.pairwise_append.2 ⟨List.pairwise_singleton _ _, hb, fun a ha b hb => by rw [List.mem_singleton] at ha; subst ha; exact h2 b hb⟩, fun a ha b hb => ?_⟩
  rcases List.mem_append.1 hb with hb | hb
  · rw [List.mem_singleton] at hb; subst hb; exact h1 a ha
  · exact hab a ha b hb
theorem backs_up {l : List flM.Ms} {hs : List flH.Hd} (hl : Up l) (hd : ∀ h ∈ hs, ∀ e ∈ l, e.q ≠ h.m.q) (hp : hs.Pairwise fun a b => a.m.q ≠ b.m.q) : Up (backs l hs) := by
  induction hs generalizing l with
  | nil => exact hl
  | cons h t ih =>
    obtain ⟨hp1, hp2⟩ := List.pairwise_cons.1 hp
    have e : backs l (h :: t) = backs (back l (again h)) t := rfl
    rw [e]
    refine ih (back_up hl (fun e he => hd h (List.mem_cons_self ..) e he)) (fun h' hh' e he => ?_) hp2
    rcases List.mem_append.1 ((back_perm l (again h)).mem_iff.1 he) with he | he
    · exact hd h' (List.mem_cons_of_mem _ hh') e he
    · rw [List.mem_singleton] at he
      subst he
      exact hp1 h' hh'
theorem up_of {l : List flM.Ms} (ha : ∀ (i : Nat) (a c : flM.Ms), l[i]? = some a → l[i + 1]? = some c → a.q < c.q) : Up l := List.pairwise_iff_getElem.2 fun i j hi hj hij => by
  have := qop.asc_lt ha (j - i - 1) i l[i] l[j] (List.getElem?_eq_getElem hi) (by rw [show i + (j - i - 1) + 1 = j by omega]; exact List.getElem?_eq_getElem hj)
  exact this
theorem of_up {l : List flM.Ms} (h : Up l) : ∀ (i : Nat) (a c : flM.Ms), l[i]? = some a → l[i + 1]? = some c → a.q < c.q := fun i a c ha hc => by
  have h1 := (List.getElem?_eq_some_iff.1 ha)
  have h2 := (List.getElem?_eq_some_iff.1 hc)
  obtain ⟨h3, rfl⟩ := h1
  obtain ⟨h4, rfl⟩ := h2
  exact List.pairwise_iff_getElem.1 h i (i + 1) h3 h4 (Nat.lt_succ_self i)
/-- of a queue that is right -/
theorem ok_up {nm : ByteArray} {nx : Int} {es : List flM.Ms} {ms : List flH.Hd} (hok : qk.OkQ nm nx es ms) (o t : Int) (a : Bool) : Up (backs es (gone o t a ms)) := by
  refine backs_up (up_of hok.ru) (fun h hh e he => ?_) ?_
  · obtain ⟨i, hi⟩ := List.mem_iff_getElem?.1 (List.mem_filter.1 hh).1
    obtain ⟨k, hk⟩ := List.mem_iff_getElem?.1 he
    exact hok.d1 i k e h hk hi
  · refine List.Pairwise.sublist List.filter_sublist ?_
    exact List.pairwise_iff_getElem.2 fun i j hi hj hij => hok.d2 j i _ _ hij (List.getElem?_eq_getElem hi) (List.getElem?_eq_getElem hj)
noncomputable def ansR (nm : ByteArray) (nx : Int) (rs : List flM.Ms) (hs : List flH.Hd) (o t : Int) (a : Bool) : List flM.Ms := if okB nm nx rs hs = true then backs rs (gone o t a hs) else rs
theorem ansR_le (nm : ByteArray) (nx : Int) (rs : List flM.Ms) (hs : List flH.Hd) (o t : Int) (a : Bool) : (ansR nm nx rs hs o t a).length ≤ rs.length ∨ (ansR nm nx rs hs o t a).length ≤ 500 := by
  unfold ansR
  split
  · rename_i hob
    have hl := (okB_true.1 hob).ln
    have := gone_le o t a hs
    rw [backs_len]
    omega
  · omega
end Go.Proofs.Ytdondjnihonacaa.qbk
