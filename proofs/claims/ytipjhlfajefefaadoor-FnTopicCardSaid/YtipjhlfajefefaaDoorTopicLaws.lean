/- The laws of patterns: a word stands for itself, a star for any one, a hash for any number; the words of texts that are put together. -/
import Derived.Test.YtipjhlfajefefaaDoorTopicPlain
namespace Go.Proofs.YtipjhlfajefefaaDoor.tp
set_option linter.unusedVariables false

/-- # for what was there and all behind -/
theorem nx_hash_up (k : List ByteArray) (row : Nat → Bool) (i : Nat) (h : row i = true) : ∀ d, nx hash k row (i + d) = true
  | 0 => by
    cases i with
    | zero => simp [nx_zero, h]
    | succ i => rw [Nat.add_zero, nx_hash, h]; rfl
  | d + 1 => by rw [← Nat.add_assoc, nx_hash, nx_hash_up k row i h d, Bool.or_true]
theorem nx_hash_all (k : List ByteArray) (row : Nat → Bool) (h : row 0 = true) (j : Nat) : nx hash k row j = true := by
  have := nx_hash_up k row 0 h j
  rwa [Nat.zero_add] at this
theorem nx_mono (p : ByteArray) (k : List ByteArray) (r r' : Nat → Bool) (h : ∀ j, r j = true → r' j = true) : ∀ j, nx p k r j = true → nx p k r' j = true
  | 0, hj => by
    rw [nx_zero, Bool.and_eq_true] at hj ⊢
    exact ⟨hj.1, h 0 hj.2⟩
  | j + 1, hj => by
    by_cases hp : p = hash
    · subst hp
      rw [nx_hash, Bool.or_eq_true] at hj ⊢
      rcases hj with hj | hj
      · exact .inl (h _ hj)
      · exact .inr (nx_mono _ k r r' h j hj)
    · rw [nx_other _ _ _ _ hp, Bool.and_eq_true] at hj ⊢
      exact ⟨h _ hj.1, hj.2⟩
theorem rows_mono (k : List ByteArray) : ∀ (ps : List ByteArray) (r r' : Nat → Bool), (∀ j, r j = true → r' j = true) → ∀ j, rows ps k r j = true → rows ps k r' j = true
  | [], r, r', h, j, hj => h j hj
  | p :: ps, r, r', h, j, hj => rows_mono k ps _ _ (nx_mono p k r r' h) j hj
/-- only the words ahead are asked -/
theorem nx_ahead (p : ByteArray) (k k' : List ByteArray) (r r' : Nat → Bool) (n : Nat) (hk : ∀ j, j < n → k.getD j ByteArray.empty = k'.getD j ByteArray.empty) (h : ∀ j, j ≤ n → r j = r' j) : ∀ j, j ≤ n → nx p k r j = nx p k' r' j
  | 0, _ => by rw [nx_zero, nx_zero, h 0 (by omega)]
  | j + 1, hj => by
    by_cases hp : p = hash
    · subst hp
      rw [nx_hash, nx_hash, h _ hj, nx_ahead _ k k' r r' n hk h j (by omega)]
    · rw [nx_other _ _ _ _ hp, nx_other _ _ _ _ hp, h j (by omega), hk j (by omega)]
theorem rows_ahead (k k' : List ByteArray) (n : Nat) (hk : ∀ j, j < n → k.getD j ByteArray.empty = k'.getD j ByteArray.empty) : ∀ (ps : List ByteArray) (r r' : Nat → Bool), (∀ j, j ≤ n → r j = r' j) → ∀ j, j ≤ n → rows ps k r j = rows ps k' r' j
  | [], r, r', h, j, hj => h j hj
  | p :: ps, r, r', h, j, hj => rows_ahead k k' n hk ps _ _ (nx_ahead p k k' r r' n hk h) j hj
def shift (r : Nat → Bool) : Nat → Bool
  | 0 => false
  | j + 1 => r j
theorem nx_shift (p x : ByteArray) (k : List ByteArray) (r : Nat → Bool) : nx p (x :: k) (shift r) = shift (nx p k r) := by
  have key : ∀ j, nx p (x :: k) (shift r) (j + 1) = nx p k r j := by
    intro j
    induction j with
    | zero =>
      by_cases hp : p = hash
      · subst hp
        rw [nx_hash, nx_zero, nx_zero]
        simp [shift]
      · rw [nx_other _ _ _ _ hp, nx_zero]
        simp [shift, hp]
    | succ j ih =>
      by_cases hp : p = hash
      · subst hp
        rw [nx_hash, ih, nx_hash]
        rfl
      · rw [nx_other _ _ _ _ hp, nx_other _ _ _ _ hp]
        rfl
  funext j
  cases j with
  | zero => rw [nx_zero]; simp [shift]
  | succ j => exact key j
theorem rows_shift (x : ByteArray) (k : List ByteArray) : ∀ (ps : List ByteArray) (r : Nat → Bool), rows ps (x :: k) (shift r) = shift (rows ps k r)
  | [], r => rfl
  | p :: ps, r => by rw [rows_cons, rows_cons, nx_shift, rows_shift x k ps]
theorem nx_first (p x : ByteArray) (k : List ByteArray) (hp : p ≠ hash) (h : p = star ∨ p = x) : nx p (x :: k) row0 = shift row0 := by
  funext j
  cases j with
  | zero => rw [nx_zero]; simp [shift, hp]
  | succ j =>
    rw [nx_other _ _ _ _ hp]
    cases j with
    | zero => rcases h with h | h <;> simp [row0, shift, h]
    | succ j => simp [row0, shift]
theorem fits_first (p x : ByteArray) (ps k : List ByteArray) (hp : p ≠ hash) (h : p = star ∨ p = x) : fits (p :: ps) (x :: k) = fits ps k := by
  unfold fits
  rw [rows_cons, nx_first p x k hp h, rows_shift]
  rfl
theorem fits_hash (k : List ByteArray) : fits [hash] k = true := nx_hash_all k row0 rfl _
theorem fits_hash_ahead (ps k : List ByteArray) (h : fits ps k = true) : fits (hash :: ps) k = true := by
  unfold fits at h ⊢
  rw [rows_cons]
  refine rows_mono k ps row0 _ ?_ _ h
  intro j _
  exact nx_hash_all k row0 rfl j
theorem fits_hash_end (ps k : List ByteArray) (h : fits ps k = true) : fits (ps ++ [hash]) k = true := by
  unfold fits at h ⊢
  rw [rows_append]
  exact nx_hash_up k _ _ h 0
theorem fits_hash_more (ps k : List ByteArray) (z : ByteArray) (h : fits ps k = true) : fits (ps ++ [hash]) (k ++ [z]) = true := by
  unfold fits at h ⊢
  rw [rows_append, List.length_append]
  refine nx_hash_up (k ++ [z]) _ k.length ?_ 1
  rw [← h]
  exact rows_ahead _ _ k.length (fun j hj => by simp [List.getD, List.getElem?_append_left hj]) ps _ _ (fun _ _ => rfl) _ (Nat.le_refl _)
theorem rows_self (k : List ByteArray) : ∀ i, i ≤ k.length → rows (k.take i) k row0 i = true
  | 0, _ => rfl
  | i + 1, hi => by
    have ih := rows_self k i (by omega)
    rw [rows_take k k row0 i (by omega)]
    by_cases hp : k.getD i ByteArray.empty = hash
    · rw [hp]
      exact nx_hash_up k _ i ih 1
    · rw [nx_other _ _ _ _ hp, ih]
      simp
theorem fits_self (k : List ByteArray) : fits k k = true := by
  have := rows_self k k.length (Nat.le_refl _)
  rwa [List.take_length] at this
/-- words that are neither # nor * stand for themselves alone -/
theorem rows_none (k : List ByteArray) (n : Nat) : ∀ (ps : List ByteArray) (r : Nat → Bool), (∀ j, j ≤ n → r j = false) → (∀ p ∈ ps, p ≠ hash) → ∀ j, j ≤ n → rows ps k r j = false
  | [], _, h, _, j, hj => h j hj
  | p :: ps, r, h, hp, j, hj => by
    refine rows_none k n ps (nx p k r) ?_ (fun q hq => hp q (by simp [hq])) j hj
    intro i hi
    cases i with
    | zero => rw [nx_zero, h 0 (by omega), Bool.and_false]
    | succ i => rw [nx_other _ _ _ _ (hp p (by simp)), h i (by omega), Bool.false_and]
theorem fits_plain : ∀ (ps k : List ByteArray), (∀ p ∈ ps, p ≠ hash ∧ p ≠ star) → fits ps k = decide (ps = k)
  | [], [], _ => rfl
  | [], x :: k, _ => by simp [fits, rows, row0]
  | p :: ps, [], hp => by
    unfold fits
    rw [rows_cons]
    show rows ps [] (nx p [] row0) 0 = _
    rw [rows_none [] 0 ps (nx p [] row0) ?_ (fun q hq => (hp q (by simp [hq])).1) _ (Nat.le_refl _)]
    · simp
    intro i hi
    obtain rfl : i = 0 := by omega
    rw [nx_zero]
    simp [(hp p (by simp)).1]
  | p :: ps, x :: k, hp => by
    have h := hp p (by simp)
    by_cases e : p = x
    · subst e
      rw [fits_first p p ps k h.1 (.inr rfl), fits_plain ps k (fun q hq => hp q (by simp [hq]))]
      simp
    · unfold fits
      rw [rows_cons, rows_none (x :: k) (x :: k).length ps (nx p (x :: k) row0) ?_ (fun q hq => (hp q (by simp [hq])).1) _ (Nat.le_refl _)]
      · simp [e]
      intro i hi
      cases i with
      | zero => rw [nx_zero]; simp [h.1]
      | succ i =>
        rw [nx_other _ _ _ _ h.1]
        cases i with
        | zero => simp [h.2, e]
        | succ i => simp [row0]
/-- what stands between the dots -/
def cut : List UInt8 → List (List UInt8)
  | [] => [[]]
  | c :: l => if c = 46 then [] :: cut l else match cut l with | [] => [[c]] | x :: xs => (c :: x) :: xs
theorem cut_ne : ∀ l, cut l ≠ []
  | [] => by simp [cut]
  | c :: l => by
    unfold cut
    split
    · simp
    · split <;> simp
theorem cut_cons {c : UInt8} {l : List UInt8} (h : c ≠ 46) : ∃ x xs, cut l = x :: xs ∧ cut (c :: l) = (c :: x) :: xs := by
  obtain ⟨x, xs, e⟩ := List.exists_cons_of_ne_nil (cut_ne l)
  exact ⟨x, xs, e, by rw [cut, if_neg h, e]⟩
theorem cut_dot (l : List UInt8) : cut (46 :: l) = [] :: cut l := by rw [cut, if_pos rfl]
theorem cut_cat (b : List UInt8) : ∀ a, cut (a ++ 46 :: b) = cut a ++ cut b
  | [] => by rw [List.nil_append, cut_dot]; rfl
  | c :: a => by
    by_cases h : c = 46
    · subst h
      rw [List.cons_append, cut_dot, cut_dot, cut_cat b a]
      rfl
    · obtain ⟨x, xs, e1, e2⟩ := cut_cons (l := a) h
      obtain ⟨y, ys, e3, e4⟩ := cut_cons (l := a ++ 46 :: b) h
      rw [cut_cat b a, e1] at e3
      rw [List.cons_append, e4, e2]
      simp only [List.cons_append, List.cons.injEq] at e3 ⊢
      exact ⟨⟨trivial, e3.1.symm⟩, e3.2.symm⟩
theorem cut_no : ∀ (l : List UInt8), (∀ c ∈ l, c ≠ 46) → cut l = [l]
  | [], _ => rfl
  | c :: l, h => by
    obtain ⟨x, xs, e1, e2⟩ := cut_cons (l := l) (h c (by simp))
    rw [cut_no l (fun d hd => h d (by simp [hd]))] at e1
    rw [e2]
    simp only [List.cons.injEq] at e1
    rw [← e1.1, ← e1.2]
def jn : List (List UInt8) → List UInt8
  | [] => []
  | [x] => x
  | x :: y :: ys => x ++ 46 :: jn (y :: ys)
theorem jn_cut : ∀ l, jn (cut l) = l
  | [] => rfl
  | c :: l => by
    by_cases h : c = 46
    · subst h
      obtain ⟨x, xs, e⟩ := List.exists_cons_of_ne_nil (cut_ne l)
      have ih := jn_cut l
      rw [cut_dot]
      rw [e] at ih ⊢
      show [] ++ 46 :: jn (x :: xs) = _
      rw [ih]
      rfl
    · obtain ⟨x, xs, e1, e2⟩ := cut_cons (l := l) h
      have ih := jn_cut l
      rw [e1] at ih
      rw [e2]
      cases xs with
      | nil => exact congrArg (c :: ·) ih
      | cons y ys => exact congrArg (c :: ·) ih
theorem cut_inj {a b : List UInt8} (h : cut a = cut b) : a = b := by rw [← jn_cut a, h, jn_cut]
theorem cut_mem : ∀ (l : List UInt8), ∀ x ∈ cut l, ∀ c ∈ x, c ∈ l
  | [], x, hx, c, hc => by
    simp only [cut, List.mem_singleton] at hx
    subst hx
    simp at hc
  | d :: l, x, hx, c, hc => by
    by_cases h : d = 46
    · subst h
      rw [cut_dot] at hx
      rcases List.mem_cons.1 hx with rfl | hx
      · simp at hc
      · exact List.mem_cons_of_mem _ (cut_mem l x hx c hc)
    · obtain ⟨y, ys, e1, e2⟩ := cut_cons (l := l) h
      rw [e2] at hx
      rcases List.mem_cons.1 hx with rfl | hx
      · rcases List.mem_cons.1 hc with rfl | hc
        · simp
        · exact List.mem_cons_of_mem _ (cut_mem l y (by rw [e1]; simp) c hc)
      · exact List.mem_cons_of_mem _ (cut_mem l x (by rw [e1]; simp [hx]) c hc)

def mk (l : List UInt8) : ByteArray := ⟨l.toArray⟩
theorem mk_inj {a b : List UInt8} (h : mk a = mk b) : a = b := by
  have := congrArg (fun s : ByteArray => s.data.toList) h
  simpa [mk] using this
theorem left_cut (s : ByteArray) : ∀ (n f i : Nat), s.size - i = n → f ≤ i → i ≤ s.size → dt.Clear s f i → dt.left s f = (cut (s.data.toList.drop f)).map mk
  | 0, f, i, hn, hfi, his, hc => by
    obtain rfl : i = s.size := by omega
    rw [dt.left_end s f hc, cut_no]
    · rw [List.map_cons, List.map_nil]
      congr 1
      apply ByteArray.ext
      apply Array.toList_inj.1
      rw [Lib.extract_to_end]
      rfl
    · intro c hm
      obtain ⟨k, hk⟩ := List.mem_iff_getElem?.1 hm
      rw [List.getElem?_drop] at hk
      by_cases hlt : f + k < s.size
      · intro e
        subst e
        exact hc (f + k) (by omega) hlt hk
      · rw [dt.at_out s _ (by omega)] at hk
        cases hk
  | n + 1, f, i, hn, hfi, his, hc => by
    have hi : i < s.size := by omega
    by_cases h46 : s[i] = 46
    · have e1 : s.data.toList.drop f = (s.extract f i).data.toList ++ 46 :: s.data.toList.drop (i + 1) := by
        rw [Lib.extract_data]
        have e3 : s.data.toList.drop i = 46 :: s.data.toList.drop (i + 1) := by
          rw [List.drop_eq_getElem_cons (by simpa using hi)]
          congr 1
        rw [← e3]
        have e4 : s.data.toList.drop i = (s.data.toList.drop f).drop (i - f) := by rw [List.drop_drop]; congr 1; omega
        rw [e4, List.take_append_drop]
      have e2 : ∀ c ∈ (s.extract f i).data.toList, c ≠ 46 := by
        intro c hm
        rw [Lib.extract_data] at hm
        obtain ⟨k, hk⟩ := List.mem_iff_getElem?.1 hm
        rw [List.getElem?_take] at hk
        split at hk
        · rw [List.getElem?_drop] at hk
          intro e
          subst e
          exact hc (f + k) (by omega) (by omega) hk
        · cases hk
      rw [dt.left_hit s f i hfi hi h46 hc, e1, cut_cat, cut_no _ e2, left_cut s n (i + 1) (i + 1) (by omega) (Nat.le_refl _) hi (fun k h1 h2 => by omega)]
      rfl
    · refine left_cut s n f (i + 1) (by omega) (by omega) hi ?_
      intro k h1 h2
      by_cases e : k = i
      · subst e
        rw [dt.at_byte s k hi]
        intro h
        exact h46 (Option.some.inj h)
      · exact hc k h1 (by omega)
theorem words_cut (s : ByteArray) : dt.left s 0 = (cut s.data.toList).map mk := by
  have := left_cut s s.size 0 0 (by omega) (Nat.le_refl _) (Nat.zero_le _) (fun k h1 h2 => by omega)
  rwa [List.drop_zero] at this
theorem map_mk : ∀ {a b : List (List UInt8)}, a.map mk = b.map mk → a = b
  | [], [], _ => rfl
  | [], y :: b, h => by simp at h
  | x :: a, [], h => by simp at h
  | x :: a, y :: b, h => by
    simp only [List.map_cons, List.cons.injEq] at h
    rw [mk_inj h.1, map_mk h.2]
theorem words_inj {a b : ByteArray} (h : dt.left a 0 = dt.left b 0) : a = b := by
  rw [words_cut, words_cut] at h
  have := cut_inj (map_mk h)
  exact ByteArray.ext (Array.toList_inj.1 this)
def dot (a b : ByteArray) : ByteArray := a ++ (⟨#[46]⟩ : ByteArray) ++ b
theorem words_dot (a b : ByteArray) : dt.left (dot a b) 0 = dt.left a 0 ++ dt.left b 0 := by
  rw [words_cut, words_cut, words_cut, ← List.map_append, ← cut_cat]
  congr 1
  simp [dot, ByteArray.data_append]
end Go.Proofs.YtipjhlfajefefaaDoor.tp
