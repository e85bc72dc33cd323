/- A text comes back from its bytes, short or long, and no other bytes are its; a text with a byte changed has another sum. -/
import Derived.Test.YtkddnennodonhaaDoorNumPlain
import Derived.Test.YtkddnennodonhaaDoorPutShortWalks
import Derived.Test.YtkddnennodonhaaDoorPutLongWalks
import Derived.Test.YtkddnennodonhaaDoorGetShortWalks
import Derived.Test.YtkddnennodonhaaDoorGetLongWalks
import Derived.Test.YtkddnennodonhaaDoorCheckSumWalks
namespace Go.Proofs.YtkddnennodonhaaDoor.sp

theorem xor_cancel {a b c : Nat} (h : a ^^^ c = b ^^^ c) : a = b := by
  have := congrArg (· ^^^ c) h
  simpa [Nat.xor_assoc] using this
theorem xor_cancel_left {a b c : Nat} (h : c ^^^ a = c ^^^ b) : a = b := xor_cancel (c := c) (by rw [Nat.xor_comm a, Nat.xor_comm b]; exact h)

theorem half_top {x : Nat} (h : x < 4294967296) : (cs.half x).testBit 31 = decide (x % 2 = 1) := by
  have hb : (x / 2).testBit 31 = false := Nat.testBit_lt_two_pow (show x / 2 < 2 ^ 31 by omega)
  unfold cs.half
  by_cases ho : x % 2 = 1
  · rw [if_pos ho, Nat.testBit_xor, hb, show (2197175160 : Nat).testBit 31 = true by decide]
    simp [ho]
  · rw [if_neg ho, hb]
    simp [ho]
theorem half_inj {x y : Nat} (hx : x < 4294967296) (hy : y < 4294967296) (h : cs.half x = cs.half y) : x = y := by
  have hp := half_top hx
  rw [h, half_top hy] at hp
  have hp' : (y % 2 = 1) = (x % 2 = 1) := by simpa using hp
  unfold cs.half at h
  by_cases ho : x % 2 = 1
  · have ho2 : y % 2 = 1 := by rw [hp']; exact ho
    rw [if_pos ho, if_pos ho2] at h
    have := xor_cancel h
    omega
  · have ho2 : ¬ y % 2 = 1 := by rw [hp']; exact ho
    rw [if_neg ho, if_neg ho2] at h
    omega
theorem halves_inj {x y : Nat} (hx : x < 4294967296) (hy : y < 4294967296) : ∀ k, cs.halves k x = cs.halves k y → x = y
  | 0, h => h
  | k + 1, h => halves_inj hx hy k (half_inj (cs.halves_lt hx k) (cs.halves_lt hy k) h)

section
variable {s t : ByteArray} {j : Nat}
theorem st_same (h : ∀ i, i ≠ j → cs.bt s i = cs.bt t i) : ∀ k, k ≤ j → cs.st s k = cs.st t k
  | 0, _ => rfl
  | k + 1, hk => by simp only [cs.st, st_same h k (by omega), h k (by omega)]
theorem st_other (h : ∀ i, i ≠ j → cs.bt s i = cs.bt t i) (hj : cs.bt s j ≠ cs.bt t j) : ∀ m, cs.st s (j + 1 + m) ≠ cs.st t (j + 1 + m)
  | 0 => fun e => by
    simp only [cs.st] at e
    have hl : ∀ u : ByteArray, cs.st u j ^^^ cs.bt u j < 4294967296 := fun u => cs.xor_lt (cs.st_lt u j) (Nat.lt_trans (cs.bt_lt u j) (by decide))
    have e2 := halves_inj (hl s) (hl t) 8 e
    rw [st_same h j (Nat.le_refl _)] at e2
    exact hj (xor_cancel_left e2)
  | m + 1 => fun e => by
    rw [show j + 1 + (m + 1) = (j + 1 + m) + 1 by omega] at e
    simp only [cs.st] at e
    have hl : ∀ u : ByteArray, cs.st u (j + 1 + m) ^^^ cs.bt u (j + 1 + m) < 4294967296 := fun u => cs.xor_lt (cs.st_lt u _) (Nat.lt_trans (cs.bt_lt u _) (by decide))
    have e2 := halves_inj (hl s) (hl t) 8 e
    rw [h (j + 1 + m) (by omega)] at e2
    exact st_other h hj m (xor_cancel e2)
/-- one byte changed: another sum -/
theorem sum_other (hs : s.size = t.size) (hjs : j < t.size) (h : ∀ i, i ≠ j → cs.bt s i = cs.bt t i) (hj : cs.bt s j ≠ cs.bt t j) : cs.sum s ≠ cs.sum t := fun e => by
  unfold cs.sum at e
  have e2 := xor_cancel e
  have e3 := st_other h hj (t.size - (j + 1))
  rw [show j + 1 + (t.size - (j + 1)) = t.size by omega] at e3
  rw [hs] at e2
  exact e3 e2
end
theorem sum_lt (s : ByteArray) : cs.sum s < 4294967296 := cs.xor_lt (cs.st_lt s _) (by decide)

/-- what is read is put again -/
theorem short_back {u : ByteArray} {i : Int} (h : gs.here u i = true) : 0 ≤ i ∧ gs.behind u i = ((gs.behind u i).toNat : Int) ∧ i.toNat ≤ (gs.behind u i).toNat ∧ (gs.behind u i).toNat ≤ u.size ∧ ps.out (gs.text u i) = u.extract i.toNat (gs.behind u i).toNat := by
  have h' := h
  simp only [gs.here, Bool.and_eq_true, decide_eq_true_eq] at h'
  obtain ⟨⟨hok, hle⟩, hin⟩ := h'
  have hp := gs.parts u i hok
  have hst : gi.stop u i 1 = i + 1 := by simp only [gi.stop, hok, if_true]
  have hok' := hok
  simp only [gi.okAt, Bool.and_eq_true, decide_eq_true_eq] at hok'
  have hpr := np.put_read u i 1 hok
  have e1 : gs.text u i = u.extract (i.toNat + 1) (i.toNat + 1 + (gi.num u i 1).toNat) := by
    simp only [gs.text, h, if_true, hst]
    rw [show (i + 1).toNat = i.toNat + 1 by omega]
  have e2 : gs.behind u i = i + 1 + gi.num u i 1 := by simp only [gs.behind, h, if_true, hst]
  have hsz : (gs.text u i).size = (gi.num u i 1).toNat := by rw [e1, ByteArray.size_extract]; omega
  refine ⟨by omega, by omega, by omega, by omega, ?_⟩
  have e3 : ps.out (gs.text u i) = pi.text ((gs.text u i).size : Int) 1 ++ gs.text u i := by
    unfold ps.out
    rw [if_pos (by omega)]
  rw [e3, hsz, show (((gi.num u i 1).toNat : Nat) : Int) = gi.num u i 1 by omega, hpr, e1, show (1 : Int).toNat = 1 from rfl, np.extract_join u _ _ _ (by omega) (by omega), e2]
  congr 1
  omega
theorem long_back {u : ByteArray} {i : Int} (h : gl.here u i = true) : 0 ≤ i ∧ gl.behind u i = ((gl.behind u i).toNat : Int) ∧ i.toNat ≤ (gl.behind u i).toNat ∧ (gl.behind u i).toNat ≤ u.size ∧ pl.out (gl.text u i) = u.extract i.toNat (gl.behind u i).toNat := by
  have h' := h
  simp only [gl.here, Bool.and_eq_true, decide_eq_true_eq] at h'
  obtain ⟨⟨hok, hle⟩, hin⟩ := h'
  have hp := gl.parts u i hok
  have hst : gi.stop u i 4 = i + 4 := by simp only [gi.stop, hok, if_true]
  have hok' := hok
  simp only [gi.okAt, Bool.and_eq_true, decide_eq_true_eq] at hok'
  have hpr := np.put_read u i 4 hok
  have e1 : gl.text u i = u.extract (i.toNat + 4) (i.toNat + 4 + (gi.num u i 4).toNat) := by
    simp only [gl.text, h, if_true, hst]
    rw [show (i + 4).toNat = i.toNat + 4 by omega]
  have e2 : gl.behind u i = i + 4 + gi.num u i 4 := by simp only [gl.behind, h, if_true, hst]
  have hsz : (gl.text u i).size = (gi.num u i 4).toNat := by rw [e1, ByteArray.size_extract]; omega
  refine ⟨by omega, by omega, by omega, by omega, ?_⟩
  have e3 : pl.out (gl.text u i) = pi.text ((gl.text u i).size : Int) 4 ++ gl.text u i := by
    unfold pl.out
    rw [if_pos (by omega)]
  rw [e3, hsz, show (((gi.num u i 4).toNat : Nat) : Int) = gi.num u i 4 by omega, hpr, e1, show (4 : Int).toNat = 4 from rfl, np.extract_join u _ _ _ (by omega) (by omega), e2]
  congr 1
  omega

theorem short_out {a : ByteArray} (h : a.size ≤ 255) : pi.fits (a.size : Int) 1 = true ∧ ps.out a = pi.text (a.size : Int) 1 ++ a ∧ (ps.out a).size = 1 + a.size := by
  have hf : pi.fits (a.size : Int) 1 = true := by simp [pi.fits, sz.mostOf]; omega
  have e : ps.out a = pi.text (a.size : Int) 1 ++ a := by unfold ps.out; rw [if_pos h]
  have hs := np.text_size hf
  exact ⟨hf, e, by rw [e, ByteArray.size_append]; omega⟩
theorem long_out {a : ByteArray} (h : a.size ≤ 100000) : pi.fits (a.size : Int) 4 = true ∧ pl.out a = pi.text (a.size : Int) 4 ++ a ∧ (pl.out a).size = 4 + a.size := by
  have hf : pi.fits (a.size : Int) 4 = true := by simp [pi.fits, sz.mostOf]; omega
  have e : pl.out a = pi.text (a.size : Int) 4 ++ a := by unfold pl.out; rw [if_pos h]
  have hs := np.text_size hf
  exact ⟨hf, e, by rw [e, ByteArray.size_append]; omega⟩

/-- what is put is read again -/
theorem read_short {a : ByteArray} (h : a.size ≤ 255) (p q : ByteArray) (hp : p.size = 1) : gs.text (p ++ ps.out a ++ q) 1 = a ∧ gs.behind (p ++ ps.out a ++ q) 1 = 1 + ((ps.out a).size : Int) := by
  obtain ⟨hf, e, hsz⟩ := short_out h
  have e1 : p ++ ps.out a ++ q = p ++ pi.text (a.size : Int) 1 ++ (a ++ q) := by
    rw [e]; apply ByteArray.ext; apply Array.toList_inj.1; simp
  have ht := np.text_size hf
  obtain ⟨hn, hs, hok⟩ := np.read_put hf p (a ++ q)
  rw [← e1, hp] at hn hs hok
  have hall : (p ++ ps.out a ++ q).size = 1 + (1 + a.size) + q.size := by simp [ByteArray.size_append]; omega
  rw [show (((1 : Nat) : Int)) = 1 from rfl] at hn hs hok
  have hh : gs.here (p ++ ps.out a ++ q) 1 = true := by
    simp only [gs.here, hok, hn, hs, Bool.true_and, Bool.and_eq_true, decide_eq_true_eq]
    omega
  refine ⟨?_, by simp only [gs.behind, hh, if_true, hn, hs]; omega⟩
  simp only [gs.text, hh, if_true, hn, hs]
  have hm := np.extract_mid (p ++ pi.text (a.size : Int) 1) a q
  have e2 : p ++ pi.text (a.size : Int) 1 ++ a ++ q = p ++ ps.out a ++ q := by
    rw [e]; apply ByteArray.ext; apply Array.toList_inj.1; simp
  rw [e2, show (p ++ pi.text (a.size : Int) 1).size = 2 by rw [ByteArray.size_append]; omega] at hm
  exact hm
theorem read_long {a : ByteArray} (h : a.size ≤ 100000) (p q : ByteArray) (hp : p.size = 1) : gl.text (p ++ pl.out a ++ q) 1 = a ∧ gl.behind (p ++ pl.out a ++ q) 1 = 1 + ((pl.out a).size : Int) := by
  obtain ⟨hf, e, hsz⟩ := long_out h
  have e1 : p ++ pl.out a ++ q = p ++ pi.text (a.size : Int) 4 ++ (a ++ q) := by
    rw [e]; apply ByteArray.ext; apply Array.toList_inj.1; simp
  have ht := np.text_size hf
  obtain ⟨hn, hs, hok⟩ := np.read_put hf p (a ++ q)
  rw [← e1, hp] at hn hs hok
  have hall : (p ++ pl.out a ++ q).size = 1 + (4 + a.size) + q.size := by simp [ByteArray.size_append]; omega
  rw [show (((1 : Nat) : Int)) = 1 from rfl] at hn hs hok
  have hh : gl.here (p ++ pl.out a ++ q) 1 = true := by
    simp only [gl.here, hok, hn, hs, Bool.true_and, Bool.and_eq_true, decide_eq_true_eq]
    omega
  refine ⟨?_, by simp only [gl.behind, hh, if_true, hn, hs]; omega⟩
  simp only [gl.text, hh, if_true, hn, hs]
  have hm := np.extract_mid (p ++ pi.text (a.size : Int) 4) a q
  have e2 : p ++ pi.text (a.size : Int) 4 ++ a ++ q = p ++ pl.out a ++ q := by
    rw [e]; apply ByteArray.ext; apply Array.toList_inj.1; simp
  rw [e2, show (p ++ pi.text (a.size : Int) 4).size = 5 by rw [ByteArray.size_append]; omega] at hm
  exact hm
end Go.Proofs.YtkddnennodonhaaDoor.sp
