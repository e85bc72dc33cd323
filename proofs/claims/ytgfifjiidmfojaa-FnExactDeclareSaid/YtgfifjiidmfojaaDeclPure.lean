/- An exchange put among ascending exchanges: where it goes, the list behind it, and what Declare answers. -/
import Derived.Test.YtgfifjiidmfojaaRouteOrder
namespace Go.Proofs.Ytgfifjiidmfojaa.dp
open Go.Proofs.Ytgfifjiidmfojaa.rc Go.Proofs.Ytgfifjiidmfojaa.rr Go.Proofs.Ytgfifjiidmfojaa.rf Go.Proofs.Ytgfifjiidmfojaa.rs Go.Proofs.Ytgfifjiidmfojaa.ro
set_option linter.unusedVariables false

def posE : List Ex → ByteArray → Nat
  | [], _ => 0
  | e :: l, r => if lt e.n r then posE l r + 1 else 0
theorem posE_le : ∀ (l : List Ex) (r : ByteArray), posE l r ≤ l.length
  | [], _ => Nat.le_refl _
  | e :: l, r => by
    unfold posE
    have := posE_le l r
    split
    · simpa using this
    · exact Nat.zero_le _
theorem posE_eq : ∀ (l : List Ex) (r : ByteArray) (p : Nat), p ≤ l.length → (∀ (i : Nat) a, i < p → l[i]? = some a → lt a.n r = true) → (∀ a, l[p]? = some a → lt a.n r = false) → posE l r = p
  | [], r, p, h, _, _ => by simp at h; subst h; rfl
  | e :: l, r, 0, _, _, h3 => by
    unfold posE
    rw [h3 e rfl]
    rfl
  | e :: l, r, p + 1, h1, h2, h3 => by
    unfold posE
    rw [h2 0 e (by omega) rfl, if_pos rfl, posE_eq l r p (by simpa using h1) (fun i a hi ha => h2 (i + 1) a (by omega) (by simpa using ha)) (fun a ha => h3 a (by simpa using ha))]
theorem posE_of {l : List Ex} {r : ByteArray} {p : Nat} (h : PosE l r p) : posE l r = p :=
  posE_eq l r p h.1 (fun i a hi ha => cmp_neg.1 (h.2.1 i a hi ha)) (fun a ha => by
    have := h.2.2 p a (Nat.le_refl _) ha
    cases hh : lt a.n r with
    | false => rfl
    | true => have := cmp_neg.2 hh; omega)
def insE (l : List Ex) (n : ByteArray) (k : Int) : List Ex := l.take (posE l n) ++ ⟨n, k⟩ :: l.drop (posE l n)
theorem insE_len (l : List Ex) (n : ByteArray) (k : Int) : (insE l n k).length = l.length + 1 := by
  have := posE_le l n
  unfold insE
  simp
  omega
theorem insE_mem {l : List Ex} {n : ByteArray} {k : Int} {e : Ex} (h : e ∈ insE l n k) : e ∈ l ∨ e = ⟨n, k⟩ := by
  unfold insE at h
  rcases List.mem_append.1 h with h | h
  · exact .inl (List.mem_of_mem_take h)
  · rcases List.mem_cons.1 h with h | h
    · exact .inr h
    · exact .inl (List.mem_of_mem_drop h)
theorem insE_at (l : List Ex) (n : ByteArray) (k : Int) : (insE l n k)[posE l n]? = some ⟨n, k⟩ := by
  have := posE_le l n
  unfold insE
  rw [List.getElem?_append_right (by simp; omega)]
  simp [Nat.min_eq_left this]
def hasE (l : List Ex) (n : ByteArray) : Prop := ∃ (t : Nat) (a : Ex), l[t]? = some a ∧ a.n = n
theorem one_at {l : List Ex} (h : UpE l l.length) {i j : Nat} {a b : Ex} (ha : l[i]? = some a) (hb : l[j]? = some b) (he : a.n = b.n) : a = b := by
  rcases Nat.lt_trichotomy i j with hij | rfl | hij
  · have := up_lt h (j - i - 1) i a b ha (by rw [show i + (j - i - 1) + 1 = j by omega]; exact hb)
    rw [he, lt_irrefl] at this
    cases this
  · rw [ha] at hb; cases hb; rfl
  · have := up_lt h (i - j - 1) j b a hb (by rw [show j + (i - j - 1) + 1 = i by omega]; exact ha)
    rw [he, lt_irrefl] at this
    cases this
open Classical in
noncomputable def fitD (es : List Ex) (bs : List Bi) (n : ByteArray) (k : Int) : Bool := decide (OkR es bs ∧ ¬ hasE es n ∧ OkR (insE es n k) bs)
open Classical in
noncomputable def retD (es : List Ex) (bs : List Bi) (n : ByteArray) (k : Int) : Bool := decide (fitD es bs n k = true ∨ (OkR es bs ∧ ∃ (t : Nat) (a : Ex), es[t]? = some a ∧ a.n = n ∧ a.k = k))
noncomputable def ansD (es : List Ex) (bs : List Bi) (n : ByteArray) (k : Int) : List Ex := if fitD es bs n k = true then insE es n k else es
theorem ansD_le (es : List Ex) (bs : List Bi) (n : ByteArray) (k : Int) : (ansD es bs n k).length ≤ es.length + 1 := by
  unfold ansD
  split
  · rw [insE_len]; omega
  · omega
theorem ansD_small {es : List Ex} {bs : List Bi} {n : ByteArray} {k : Int} (h : es.length ≤ 1048576) : (ansD es bs n k).length ≤ 1048576 := by
  unfold ansD
  split
  · rename_i hf
    unfold fitD at hf
    simp only [decide_eq_true_eq] at hf
    have := hf.1.el
    rw [insE_len]; omega
  · exact h
section
variable {es : List Ex} {bs : List Bi} {n : ByteArray} {k : Int}
theorem not_fit (h : ¬ (OkR es bs ∧ ¬ hasE es n ∧ OkR (insE es n k) bs)) : fitD es bs n k = false := by unfold fitD; simp [h]
theorem ans_same (h : fitD es bs n k = false) : ansD es bs n k = es := by unfold ansD; rw [if_neg (by rw [h]; simp)]
/-- the routes are not right -/
theorem bad (h : ¬ OkR es bs) : ansD es bs n k = es ∧ retD es bs n k = false := by
  have hf := not_fit (k := k) (n := n) (es := es) (bs := bs) (fun x => h x.1)
  refine ⟨ans_same hf, ?_⟩
  unfold retD
  rw [hf]
  simp [h]
/-- the name or the kind is wrong -/
theorem wrong (h : OkR es bs) (hx : exOk ⟨n, k⟩ = false) : ansD es bs n k = es ∧ retD es bs n k = false := by
  have hf : fitD es bs n k = false := not_fit (fun x => by
    have := x.2.2.eo (posE es n) ⟨n, k⟩ (insE_at es n k)
    rw [hx] at this
    cases this)
  refine ⟨ans_same hf, ?_⟩
  unfold retD
  rw [hf]
  simp only [Bool.false_eq_true, false_or, decide_eq_false_iff_not]
  rintro ⟨_, t, ⟨an, ak⟩, h1, h2, h3⟩
  have := h.eo t _ h1
  simp only at h2 h3
  subst h2 h3
  rw [hx] at this
  cases this
/-- it is there -/
theorem there {t : Nat} {a : Ex} (h : OkR es bs) (ha : es[t]? = some a) (hn : a.n = n) : ansD es bs n k = es ∧ retD es bs n k = decide (a.k = k) := by
  have hf : fitD es bs n k = false := not_fit (fun x => x.2.1 ⟨t, a, ha, hn⟩)
  refine ⟨ans_same hf, ?_⟩
  unfold retD
  rw [hf]
  by_cases hk : a.k = k
  · simp only [hk, decide_true, decide_eq_true_eq]
    exact .inr ⟨h, t, a, ha, hn, hk⟩
  · simp only [hk, decide_false, decide_eq_false_iff_not]
    rintro (hh | ⟨_, s, b, h1, h2, h3⟩)
    · cases hh
    · have := one_at h.eu ha h1 (hn.trans h2.symm)
      subst this
      exact hk h3
theorem kind_is (h : 0 ≤ kindOf es n) : ∃ (t : Nat) (a : Ex), es[t]? = some a ∧ a.n = n ∧ kindOf es n = a.k := by
  unfold kindOf at h ⊢
  cases hf : es.find? (fun e => decide (e.n = n)) with
  | none => rw [hf] at h; simp at h
  | some e =>
    have h1 := List.mem_of_find?_eq_some hf
    have h2 := List.find?_some hf
    obtain ⟨t, ht⟩ := List.getElem?_of_mem h1
    exact ⟨t, e, ht, by simpa using h2, rfl⟩
theorem kind_there (h : OkR es bs) (hk : 0 ≤ kindOf es n) : ansD es bs n k = es ∧ retD es bs n k = decide (kindOf es n = k) := by
  obtain ⟨t, a, h1, h2, h3⟩ := kind_is hk
  rw [h3]
  exact there h h1 h2
theorem kind_not (h : OkR es bs) (hk : ¬ 0 ≤ kindOf es n) : ¬ hasE es n := fun hh => hk ((ro.kind_there (fun i e he => by
  have := h.eo i e he
  unfold exOk at this
  simp at this
  exact this.2.1) n).2 hh)
/-- it is put, and that is right -/
theorem put (h : OkR es bs) (hh : ¬ hasE es n) (h2 : OkR (insE es n k) bs) : ansD es bs n k = insE es n k ∧ retD es bs n k = true := by
  have hf : fitD es bs n k = true := by unfold fitD; simp [h, hh, h2]
  refine ⟨by unfold ansD; rw [if_pos hf], ?_⟩
  unfold retD
  rw [hf]
  simp
/-- it is put, and that is not right -/
theorem over (h : OkR es bs) (hh : ¬ hasE es n) (h2 : ¬ OkR (insE es n k) bs) : ansD es bs n k = es ∧ retD es bs n k = false := by
  have hf : fitD es bs n k = false := not_fit (fun x => h2 x.2.2)
  refine ⟨ans_same hf, ?_⟩
  unfold retD
  rw [hf]
  simp only [Bool.false_eq_true, false_or, decide_eq_false_iff_not]
  rintro ⟨_, t, a, h1, h2, h3⟩
  exact hh ⟨t, a, h1, h2⟩
end
end Go.Proofs.Ytgfifjiidmfojaa.dp
