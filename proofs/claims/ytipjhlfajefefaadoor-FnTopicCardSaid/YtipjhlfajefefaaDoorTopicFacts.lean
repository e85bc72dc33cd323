/- What the law of patterns asks of two keys, as facts about 'topic'. -/
import Derived.Test.YtipjhlfajefefaaDoorTopicLaws
namespace Go.Proofs.YtipjhlfajefefaaDoor.tp

theorem bt_data (s : ByteArray) (j : Nat) (h : j < s.size) : ky.bt s j = (s.data.toList[j]'(by simpa using h)).toNat := by
  unfold ky.bt
  rw [dif_pos h]
  rfl
theorem good_iff (s : ByteArray) : ky.good s = true ↔ s.size ≤ 60 ∧ ∀ c ∈ s.data.toList, 33 ≤ c.toNat ∧ c.toNat ≤ 126 := by
  simp only [ky.good, decide_eq_true_eq]
  refine and_congr_right fun _ => ⟨fun h c hc => ?_, fun h j hj => ?_⟩
  · obtain ⟨j, hj, rfl⟩ := List.mem_iff_getElem.1 hc
    have hj' : j < s.size := by simpa using hj
    have := h j hj'
    rwa [bt_data s j hj'] at this
  · rw [bt_data s j hj]
    exact h _ (List.getElem_mem _)
theorem good_append {a b : ByteArray} (ha : ky.good a = true) (hb : ky.good b = true) (hs : a.size + b.size ≤ 60) : ky.good (a ++ b) = true := by
  rw [good_iff] at ha hb ⊢
  refine ⟨by rw [ByteArray.size_append]; exact hs, fun c hc => ?_⟩
  rw [ByteArray.data_append, Array.toList_append, List.mem_append] at hc
  exact hc.elim (ha.2 c) (hb.2 c)
theorem topic_good {p k : ByteArray} (hp : ky.good p = true) (hk : ky.good k = true) : topic p k = fits (dt.left p 0) (dt.left k 0) := by
  unfold topic
  rw [hp, hk]
  rfl
theorem topic_left {p k : ByteArray} (hp : ky.good p = false) : topic p k = false := by unfold topic; rw [hp]; rfl
theorem topic_right {p k : ByteArray} (hk : ky.good k = false) : topic p k = false := by unfold topic; rw [hk, Bool.and_false]; rfl
theorem one (c : UInt8) (h : c ≠ 46) : dt.left (⟨#[c]⟩ : ByteArray) 0 = [⟨#[c]⟩] := by
  rw [words_cut, cut_no _ (by intro d hd; simp at hd; rw [hd]; exact h)]
  rfl
theorem head_dot (c : UInt8) (p : ByteArray) : (⟨#[c, 46]⟩ : ByteArray) ++ p = dot ⟨#[c]⟩ p := by
  apply ByteArray.ext
  simp [dot, ByteArray.data_append]
theorem tail_dot (c : UInt8) (p : ByteArray) : p ++ (⟨#[46, c]⟩ : ByteArray) = dot p ⟨#[c]⟩ := by
  apply ByteArray.ext
  apply Array.toList_inj.1
  simp [dot, ByteArray.data_append]
theorem words_head (c : UInt8) (h : c ≠ 46) (p : ByteArray) : dt.left ((⟨#[c, 46]⟩ : ByteArray) ++ p) 0 = ⟨#[c]⟩ :: dt.left p 0 := by
  rw [head_dot, words_dot, one c h]
  rfl
theorem words_tail (c : UInt8) (h : c ≠ 46) (p : ByteArray) : dt.left (p ++ (⟨#[46, c]⟩ : ByteArray)) 0 = dt.left p 0 ++ [⟨#[c]⟩] := by
  rw [tail_dot, words_dot, one c h]
theorem size2 (a b : UInt8) : (⟨#[a, b]⟩ : ByteArray).size = 2 := rfl

theorem f_any {k : ByteArray} (hk : ky.good k = true) : topic ⟨#[35]⟩ k = true := by
  rw [topic_good (by decide) hk, one 35 (by decide)]
  exact fits_hash _
theorem f_self {k : ByteArray} (hk : ky.good k = true) : topic k k = true := by
  rw [topic_good hk hk]
  exact fits_self _
theorem f_plain {p k : ByteArray} (hp : ky.good p = true) (hk : ky.good k = true) (h : ∀ j, j < p.size → ky.bt p j ≠ 42 ∧ ky.bt p j ≠ 35) : topic p k = decide (p = k) := by
  rw [topic_good hp hk, fits_plain]
  · by_cases e : p = k
    · subst e; simp
    · rw [decide_eq_false e, decide_eq_false (fun h => e (words_inj h))]
  · intro x hx
    rw [words_cut, List.mem_map] at hx
    obtain ⟨l, hl, rfl⟩ := hx
    have hm := cut_mem _ l hl
    have hno : ∀ c ∈ l, c ≠ 42 ∧ c ≠ 35 := by
      intro c hc
      obtain ⟨j, hj, e⟩ := List.mem_iff_getElem.1 (hm c hc)
      have hj' : j < p.size := by simpa using hj
      have hb := h j hj'
      rw [bt_data p j hj', e] at hb
      exact ⟨fun e => hb.1 (by rw [e]; rfl), fun e => hb.2 (by rw [e]; rfl)⟩
    refine ⟨fun e => ?_, fun e => ?_⟩
    · have : l = [35] := mk_inj (b := [35]) e
      subst this
      exact (hno 35 (by simp)).2 rfl
    · have : l = [42] := mk_inj (b := [42]) e
      subst this
      exact (hno 42 (by simp)).1 rfl
theorem f_word {p k : ByteArray} (hp : ky.good p = true) (hk : ky.good k = true) (sp : p.size ≤ 50) (sk : k.size ≤ 5) : topic ((⟨#[120, 46]⟩ : ByteArray) ++ p) ((⟨#[120, 46]⟩ : ByteArray) ++ k) = topic p k := by
  rw [topic_good hp hk, topic_good (good_append (by decide) hp (by rw [size2]; omega)) (good_append (by decide) hk (by rw [size2]; omega)), words_head 120 (by decide), words_head 120 (by decide)]
  exact fits_first _ _ _ _ (by decide) (.inr rfl)
theorem f_star {p k : ByteArray} (hp : ky.good p = true) (hk : ky.good k = true) (sp : p.size ≤ 50) (sk : k.size ≤ 5) : topic ((⟨#[42, 46]⟩ : ByteArray) ++ p) ((⟨#[121, 46]⟩ : ByteArray) ++ k) = topic p k := by
  rw [topic_good hp hk, topic_good (good_append (by decide) hp (by rw [size2]; omega)) (good_append (by decide) hk (by rw [size2]; omega)), words_head 42 (by decide), words_head 121 (by decide)]
  exact fits_first _ _ _ _ (by decide) (.inl rfl)
theorem f_ahead {p k : ByteArray} (hp : ky.good p = true) (hk : ky.good k = true) (sp : p.size ≤ 50) (h : topic p k = true) : topic ((⟨#[35, 46]⟩ : ByteArray) ++ p) k = true := by
  rw [topic_good hp hk] at h
  rw [topic_good (good_append (by decide) hp (by rw [size2]; omega)) hk, words_head 35 (by decide)]
  exact fits_hash_ahead _ _ h
theorem f_end {p k : ByteArray} (hp : ky.good p = true) (hk : ky.good k = true) (sp : p.size ≤ 50) (h : topic p k = true) : topic (p ++ (⟨#[46, 35]⟩ : ByteArray)) k = true := by
  rw [topic_good hp hk] at h
  rw [topic_good (good_append hp (by decide) (by rw [size2]; omega)) hk, words_tail 35 (by decide)]
  exact fits_hash_end _ _ h
theorem f_more {p k : ByteArray} (hp : ky.good p = true) (hk : ky.good k = true) (sp : p.size ≤ 50) (sk : k.size ≤ 5) (h : topic p k = true) : topic (p ++ (⟨#[46, 35]⟩ : ByteArray)) (k ++ (⟨#[46, 122]⟩ : ByteArray)) = true := by
  rw [topic_good hp hk] at h
  rw [topic_good (good_append hp (by decide) (by rw [size2]; omega)) (good_append hk (by decide) (by rw [size2]; omega)), words_tail 35 (by decide), words_tail 122 (by decide)]
  exact fits_hash_more _ _ _ h
end Go.Proofs.YtipjhlfajefefaaDoor.tp
