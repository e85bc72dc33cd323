/- Batches and records on bytes: what is put is read again, and what is read was put; of a log that is cut off or spoilt in its last record the records ahead are left. -/
import Derived.Test.YtjnfljipomjcjaaGreatDoorRk02
import Derived.Test.YtjnfljipomjcjaaGreatDoorPutIntWalks
import Derived.Lib.IndexBytes
import Derived.Test.YtjnfljipomjcjaaGreatDoorPutShortWalks
import Derived.Test.YtjnfljipomjcjaaGreatDoorPutLongWalks
import Derived.Test.YtjnfljipomjcjaaGreatDoorRk03
import Derived.Test.YtjnfljipomjcjaaGreatDoorRk01
import Derived.Test.YtjnfljipomjcjaaGreatDoorRk05

/- A number comes back from its bytes wherever they stand, and no other bytes are its. -/
namespace Go.Proofs.YtjnfljipomjcjaaGreatDoor.np
open Go.Proofs.YtjnfljipomjcjaaGreatDoor.sz

/-- the number of k bytes from place i on, as a natural number -/
def G (s : ByteArray) (i k : Nat) : Nat := (gi.gi s i k).toNat
theorem G_eq (s : ByteArray) (i k : Nat) : gi.gi s i k = (G s i k : Int) := by
  have := (gi.gi_bound s i k).1
  unfold G
  omega
theorem G_succ (s : ByteArray) (i k : Nat) : G s i (k + 1) = 256 * G s i k + gi.bt s (i + k) := by
  have h := G_eq s i (k + 1)
  have h2 := G_eq s i k
  simp only [gi.gi] at h
  rw [h2] at h
  omega
theorem G_div (s : ByteArray) (i k : Nat) : ∀ m, G s i (k + m) / 256 ^ m = G s i k
  | 0 => by simp
  | m + 1 => by
    have hb := gi.bt_le s (i + (k + m))
    rw [show k + (m + 1) = (k + m) + 1 by omega, G_succ, Nat.pow_succ, Nat.mul_comm (256 ^ m) 256, ← Nat.div_div_eq_div_mul, show (256 * G s i (k + m) + gi.bt s (i + (k + m))) / 256 = G s i (k + m) by omega]
    exact G_div s i k m
theorem G_byte (s : ByteArray) (i z j : Nat) (h : j < z) : G s i z / 256 ^ (z - 1 - j) % 256 = gi.bt s (i + j) := by
  have h1 := G_div s i (j + 1) (z - 1 - j)
  rw [show j + 1 + (z - 1 - j) = z by omega] at h1
  have hb := gi.bt_le s (i + j)
  rw [h1, G_succ]
  omega

theorem lo_bytes (s : ByteArray) (i z : Nat) (h : i + z ≤ s.size) : strOfNums (pi.lo (G s i z) z) = s.extract i (i + z) := by
  apply ByteArray.ext
  apply Array.toList_inj.1
  rw [strOfNums_data, Lib.extract_data, show i + z - i = z by omega]
  apply List.ext_getElem?
  intro j
  by_cases hj : j < z
  · have h1 : (pi.lo (G s i z) z)[j]? = some ((gi.bt s (i + j) : Nat) : Int) := by
      have h2 := pi.lo_get (G s i z) z j hj
      rw [G_byte s i z j hj] at h2
      have hl : j < (pi.lo (G s i z) z).length := by rw [pi.lo_length]; exact hj
      rw [List.getElem?_eq_getElem hl]
      simp only [List.getD, List.getElem?_eq_getElem hl, Option.getD_some] at h2
      rw [h2]
    have h3 : i + j < s.size := by omega
    rw [List.getElem?_map, h1, List.getElem?_take_of_lt hj, List.getElem?_drop, Lib.data_getElem? s (i + j) h3]
    simp only [Option.map_some, Int.toNat_natCast]
    rw [← gi.bt_eq s (i + j) h3]
    simp
  · rw [List.getElem?_eq_none (by rw [List.length_map, pi.lo_length]; omega), List.getElem?_eq_none (by rw [List.length_take]; omega)]

/-- what is read is put again -/
theorem put_read (s : ByteArray) (i z : Int) (h : gi.okAt s i z = true) : pi.text (gi.num s i z) z = s.extract i.toNat (i.toNat + z.toNat) := by
  have h' := h
  simp only [gi.okAt, Bool.and_eq_true, decide_eq_true_eq] at h'
  have hz := size_of z (by omega)
  have hn : gi.num s i z = gi.gi s i.toNat z.toNat := by simp only [gi.num, h, if_true]
  have hfit : pi.fits (gi.num s i z) z = true := by
    rw [hn]
    have hb := gi.gi_bound s i.toNat z.toNat
    simp only [pi.fits, Bool.and_eq_true, decide_eq_true_eq]
    refine ⟨hb.1, ?_⟩
    rcases hz with rfl | rfl | rfl | rfl
    · have : (1 : Int).toNat = 1 := rfl
      rw [this] at hb ⊢
      simp [mostOf]; omega
    · have : (2 : Int).toNat = 2 := rfl
      rw [this] at hb ⊢
      simp [mostOf]; omega
    · have : (4 : Int).toNat = 4 := rfl
      rw [this] at hb ⊢
      simp [mostOf]; omega
    · have h7 : gi.bt s i.toNat ≤ 127 := by
        have := h'.2
        simp at this
        omega
      have hb7 := gi.gi_bound7 s i.toNat h7 7
      rw [show 7 + 1 = 8 from rfl] at hb7
      have : (8 : Int).toNat = 8 := rfl
      rw [this]
      simp [mostOf]; omega
  simp only [pi.text, hfit, if_true]
  rw [hn]
  exact lo_bytes s i.toNat z.toNat (by omega)

theorem bt_mid (p s q : ByteArray) (j : Nat) (hj : j < s.size) : gi.bt (p ++ s ++ q) (p.size + j) = gi.bt s j := by
  have e1 : (p ++ s ++ q).data.toList[p.size + j]? = s.data.toList[j]? := by
    simp only [ByteArray.data_append, Array.toList_append]
    have hpl : p.data.toList.length = p.size := by simp
    have hsl : s.data.toList.length = s.size := by simp
    rw [List.append_assoc, List.getElem?_append_right (by omega), hpl, show p.size + j - p.size = j by omega, List.getElem?_append_left (by omega)]
  have hs1 : p.size + j < (p ++ s ++ q).size := by simp [ByteArray.size_append]; omega
  rw [Lib.data_getElem? _ _ hs1, Lib.data_getElem? _ _ hj] at e1
  rw [← gi.bt_eq _ _ hs1, ← gi.bt_eq _ _ hj, Option.some.inj e1]

theorem text_fits {n z : Int} (h : pi.fits n z = true) : pi.text n z = strOfNums (pi.lo n.toNat z.toNat) := by simp only [pi.text, h, if_true]
theorem text_size {n z : Int} (h : pi.fits n z = true) : ((pi.text n z).size : Int) = z := by
  rw [text_fits h, strOfNums_size, pi.lo_length]
  simp only [pi.fits, Bool.and_eq_true, decide_eq_true_eq] at h
  have := size_of z (by omega)
  omega

theorem text_bt {n z : Int} (h : pi.fits n z = true) (j : Nat) (hj : j < z.toNat) : gi.bt (pi.text n z) j = n.toNat / 256 ^ (z.toNat - 1 - j) % 256 := by
  have hl : j < (pi.text n z).size := by have := text_size h; omega
  rw [← gi.bt_eq _ _ hl]
  have h1 := Lib.data_getElem? (pi.text n z) j hl
  have h2 : (pi.text n z).data.toList[j]? = some (UInt8.ofNat (n.toNat / 256 ^ (z.toNat - 1 - j) % 256)) := by
    rw [text_fits h, strOfNums_data]
    have h3 := pi.lo_get n.toNat z.toNat j hj
    have hl2 : j < (pi.lo n.toNat z.toNat).length := by rw [pi.lo_length]; exact hj
    simp only [List.getD, List.getElem?_eq_getElem hl2, Option.getD_some] at h3
    rw [List.getElem?_map, List.getElem?_eq_getElem hl2, h3]
    simp only [Option.map_some, Int.toNat_natCast]
  rw [h1] at h2
  rw [Option.some.inj h2, UInt8.toNat_ofNat']
  omega

theorem G_text {n z : Int} (h : pi.fits n z = true) (p q : ByteArray) : ∀ k, k ≤ z.toNat → n.toNat < 256 ^ z.toNat → G (p ++ pi.text n z ++ q) p.size k = n.toNat / 256 ^ (z.toNat - k)
  | 0, _, hn => by
    rw [Nat.sub_zero, Nat.div_eq_of_lt hn]
    rfl
  | k + 1, hk, hn => by
    have ih := G_text h p q k (by omega) hn
    have hsz := text_size h
    rw [G_succ, ih, bt_mid p _ q k (by omega), text_bt h k (by omega)]
    have e : z.toNat - k = (z.toNat - 1 - k) + 1 := by omega
    have e2 : z.toNat - (k + 1) = z.toNat - 1 - k := by omega
    rw [e2, e, Nat.pow_succ, ← Nat.div_div_eq_div_mul]
    omega

/-- what is put is read again, wherever it stands -/
theorem read_put {n z : Int} (h : pi.fits n z = true) (p q : ByteArray) :
    gi.num (p ++ pi.text n z ++ q) p.size z = n ∧ gi.stop (p ++ pi.text n z ++ q) p.size z = p.size + z ∧ gi.okAt (p ++ pi.text n z ++ q) p.size z = true := by
  have hsz := text_size h
  have h' := h
  simp only [pi.fits, Bool.and_eq_true, decide_eq_true_eq] at h'
  have hz := size_of z (by omega)
  have hlt : n.toNat < 256 ^ z.toNat := by
    have hle := h'.2
    rcases hz with rfl | rfl | rfl | rfl <;> simp [mostOf] at hle <;> simp <;> omega
  have hG := G_text h p q z.toNat (Nat.le_refl _) hlt
  rw [Nat.sub_self, Nat.pow_zero, Nat.div_one] at hG
  have hbig : (p ++ pi.text n z ++ q).size = p.size + (pi.text n z).size + q.size := by simp [ByteArray.size_append]
  have hok : gi.okAt (p ++ pi.text n z ++ q) p.size z = true := by
    simp only [gi.okAt, Bool.and_eq_true, decide_eq_true_eq, Bool.not_eq_true', Bool.and_eq_false_iff, decide_eq_false_iff_not]
    refine ⟨⟨⟨by omega, by omega⟩, by omega⟩, ?_⟩
    by_cases h8 : z = 8
    · right
      subst h8
      have e := bt_mid p (pi.text n 8) q 0 (by omega)
      rw [show ((p.size : Int)).toNat = p.size + 0 by omega, e, text_bt h 0 (by decide)]
      have hle := h'.2
      simp [mostOf] at hle
      rw [show (8 : Int).toNat - 1 - 0 = 7 from rfl]
      omega
    · exact .inl h8
  refine ⟨?_, by simp only [gi.stop, hok, if_true], hok⟩
  simp only [gi.num, hok, if_true]
  rw [show ((p.size : Int)).toNat = p.size by omega, G_eq, hG]
  omega

/-- two pieces one behind the other are one -/
theorem extract_join (s : ByteArray) (i j k : Nat) (h1 : i ≤ j) (h2 : j ≤ k) : s.extract i j ++ s.extract j k = s.extract i k := by
  apply ByteArray.ext
  apply Array.toList_inj.1
  rw [ByteArray.data_append, Array.toList_append, Lib.extract_data, Lib.extract_data, Lib.extract_data, show k - i = (j - i) + (k - j) by omega, List.take_add, List.drop_drop, show i + (j - i) = j by omega]
/-- the middle of three pieces -/
theorem extract_mid (p s q : ByteArray) : (p ++ s ++ q).extract p.size (p.size + s.size) = s := by
  apply ByteArray.ext
  apply Array.toList_inj.1
  rw [Lib.extract_data, ByteArray.data_append, Array.toList_append, ByteArray.data_append, Array.toList_append, List.append_assoc, show p.size + s.size - p.size = s.size by omega]
  have hpl : p.data.toList.length = p.size := by simp
  have hsl : s.data.toList.length = s.size := by simp
  rw [List.drop_append_of_le_length (by omega), List.drop_of_length_le (by omega), List.nil_append, List.take_append_of_le_length (by omega), List.take_of_length_le (by omega)]
end Go.Proofs.YtjnfljipomjcjaaGreatDoor.np

/- A text comes back from its bytes, short or long, and no other bytes are its; a text with a byte changed has another sum. -/
namespace Go.Proofs.YtjnfljipomjcjaaGreatDoor.sp

theorem xor_cancel {a b c : Nat} (h : a ^^^ c = b ^^^ c) : a = b := by
  have := congrArg (· ^^^ c) h
  simpa [Nat.xor_assoc] using this
theorem xor_cancel_left {a b c : Nat} (h : c ^^^ a = c ^^^ b) : a = b := xor_cancel (c := c) (by rw [Nat.xor_comm a, Nat.xor_comm b]; exact h)

theorem half_top {x : Nat} (h : x < 4294967296) : (cs.half x).testBit 31 = decide (x % 2 = 1) := by
  have hb : (x / 2).testBit 31 = false := Nat.testBit_lt_two_pow (show x / 2 < 2 ^ 31 by omega)
  unfold cs.half
  by_cases ho : x % 2 = 1
  · rw [if_pos ho, Nat.testBit_xor, hb, show (2197175160 : Nat).testBit 31 = true by decide]
    simp [ho]
  · rw [if_neg ho, hb]
    simp [ho]
theorem half_inj {x y : Nat} (hx : x < 4294967296) (hy : y < 4294967296) (h : cs.half x = cs.half y) : x = y := by
  have hp := half_top hx
  rw [h, half_top hy] at hp
  have hp' : (y % 2 = 1) = (x % 2 = 1) := by simpa using hp
  unfold cs.half at h
  by_cases ho : x % 2 = 1
  · have ho2 : y % 2 = 1 := by rw [hp']; exact ho
    rw [if_pos ho, if_pos ho2] at h
    have := xor_cancel h
    omega
  · have ho2 : ¬ y % 2 = 1 := by rw [hp']; exact ho
    rw [if_neg ho, if_neg ho2] at h
    omega
theorem halves_inj {x y : Nat} (hx : x < 4294967296) (hy : y < 4294967296) : ∀ k, cs.halves k x = cs.halves k y → x = y
  | 0, h => h
  | k + 1, h => halves_inj hx hy k (half_inj (cs.halves_lt hx k) (cs.halves_lt hy k) h)

section
variable {s t : ByteArray} {j : Nat}
theorem st_same (h : ∀ i, i ≠ j → cs.bt s i = cs.bt t i) : ∀ k, k ≤ j → cs.st s k = cs.st t k
  | 0, _ => rfl
  | k + 1, hk => by simp only [cs.st, st_same h k (by omega), h k (by omega)]
theorem st_other (h : ∀ i, i ≠ j → cs.bt s i = cs.bt t i) (hj : cs.bt s j ≠ cs.bt t j) : ∀ m, cs.st s (j + 1 + m) ≠ cs.st t (j + 1 + m)
  | 0 => fun e => by
    simp only [cs.st] at e
    have hl : ∀ u : ByteArray, cs.st u j ^^^ cs.bt u j < 4294967296 := fun u => cs.xor_lt (cs.st_lt u j) (Nat.lt_trans (cs.bt_lt u j) (by decide))
    have e2 := halves_inj (hl s) (hl t) 8 e
    rw [st_same h j (Nat.le_refl _)] at e2
    exact hj (xor_cancel_left e2)
  | m + 1 => fun e => by
    rw [show j + 1 + (m + 1) = (j + 1 + m) + 1 by omega] at e
    simp only [cs.st] at e
    have hl : ∀ u : ByteArray, cs.st u (j + 1 + m) ^^^ cs.bt u (j + 1 + m) < 4294967296 := fun u => cs.xor_lt (cs.st_lt u _) (Nat.lt_trans (cs.bt_lt u _) (by decide))
    have e2 := halves_inj (hl s) (hl t) 8 e
    rw [h (j + 1 + m) (by omega)] at e2
    exact st_other h hj m (xor_cancel e2)
/-- one byte changed: another sum -/
theorem sum_other (hs : s.size = t.size) (hjs : j < t.size) (h : ∀ i, i ≠ j → cs.bt s i = cs.bt t i) (hj : cs.bt s j ≠ cs.bt t j) : cs.sum s ≠ cs.sum t := fun e => by
  unfold cs.sum at e
  have e2 := xor_cancel e
  have e3 := st_other h hj (t.size - (j + 1))
  rw [show j + 1 + (t.size - (j + 1)) = t.size by omega] at e3
  rw [hs] at e2
  exact e3 e2
end
theorem sum_lt (s : ByteArray) : cs.sum s < 4294967296 := cs.xor_lt (cs.st_lt s _) (by decide)

/-- what is read is put again -/
theorem short_back {u : ByteArray} {i : Int} (h : gs.here u i = true) : 0 ≤ i ∧ gs.behind u i = ((gs.behind u i).toNat : Int) ∧ i.toNat ≤ (gs.behind u i).toNat ∧ (gs.behind u i).toNat ≤ u.size ∧ ps.out (gs.text u i) = u.extract i.toNat (gs.behind u i).toNat := by
  have h' := h
  simp only [gs.here, Bool.and_eq_true, decide_eq_true_eq] at h'
  obtain ⟨⟨hok, hle⟩, hin⟩ := h'
  have hp := gs.parts u i hok
  have hst : gi.stop u i 1 = i + 1 := by simp only [gi.stop, hok, if_true]
  have hok' := hok
  simp only [gi.okAt, Bool.and_eq_true, decide_eq_true_eq] at hok'
  have hpr := np.put_read u i 1 hok
  have e1 : gs.text u i = u.extract (i.toNat + 1) (i.toNat + 1 + (gi.num u i 1).toNat) := by
    simp only [gs.text, h, if_true, hst]
    rw [show (i + 1).toNat = i.toNat + 1 by omega]
  have e2 : gs.behind u i = i + 1 + gi.num u i 1 := by simp only [gs.behind, h, if_true, hst]
  have hsz : (gs.text u i).size = (gi.num u i 1).toNat := by rw [e1, ByteArray.size_extract]; omega
  refine ⟨by omega, by omega, by omega, by omega, ?_⟩
  have e3 : ps.out (gs.text u i) = pi.text ((gs.text u i).size : Int) 1 ++ gs.text u i := by
    unfold ps.out
    rw [if_pos (by omega)]
  rw [e3, hsz, show (((gi.num u i 1).toNat : Nat) : Int) = gi.num u i 1 by omega, hpr, e1, show (1 : Int).toNat = 1 from rfl, np.extract_join u _ _ _ (by omega) (by omega), e2]
  congr 1
  omega
theorem long_back {u : ByteArray} {i : Int} (h : gl.here u i = true) : 0 ≤ i ∧ gl.behind u i = ((gl.behind u i).toNat : Int) ∧ i.toNat ≤ (gl.behind u i).toNat ∧ (gl.behind u i).toNat ≤ u.size ∧ pl.out (gl.text u i) = u.extract i.toNat (gl.behind u i).toNat := by
  have h' := h
  simp only [gl.here, Bool.and_eq_true, decide_eq_true_eq] at h'
  obtain ⟨⟨hok, hle⟩, hin⟩ := h'
  have hp := gl.parts u i hok
  have hst : gi.stop u i 4 = i + 4 := by simp only [gi.stop, hok, if_true]
  have hok' := hok
  simp only [gi.okAt, Bool.and_eq_true, decide_eq_true_eq] at hok'
  have hpr := np.put_read u i 4 hok
  have e1 : gl.text u i = u.extract (i.toNat + 4) (i.toNat + 4 + (gi.num u i 4).toNat) := by
    simp only [gl.text, h, if_true, hst]
    rw [show (i + 4).toNat = i.toNat + 4 by omega]
  have e2 : gl.behind u i = i + 4 + gi.num u i 4 := by simp only [gl.behind, h, if_true, hst]
  have hsz : (gl.text u i).size = (gi.num u i 4).toNat := by rw [e1, ByteArray.size_extract]; omega
  refine ⟨by omega, by omega, by omega, by omega, ?_⟩
  have e3 : pl.out (gl.text u i) = pi.text ((gl.text u i).size : Int) 4 ++ gl.text u i := by
    unfold pl.out
    rw [if_pos (by omega)]
  rw [e3, hsz, show (((gi.num u i 4).toNat : Nat) : Int) = gi.num u i 4 by omega, hpr, e1, show (4 : Int).toNat = 4 from rfl, np.extract_join u _ _ _ (by omega) (by omega), e2]
  congr 1
  omega

theorem short_out {a : ByteArray} (h : a.size ≤ 255) : pi.fits (a.size : Int) 1 = true ∧ ps.out a = pi.text (a.size : Int) 1 ++ a ∧ (ps.out a).size = 1 + a.size := by
  have hf : pi.fits (a.size : Int) 1 = true := by simp [pi.fits, sz.mostOf]; omega
  have e : ps.out a = pi.text (a.size : Int) 1 ++ a := by unfold ps.out; rw [if_pos h]
  have hs := np.text_size hf
  exact ⟨hf, e, by rw [e, ByteArray.size_append]; omega⟩
theorem long_out {a : ByteArray} (h : a.size ≤ 100000) : pi.fits (a.size : Int) 4 = true ∧ pl.out a = pi.text (a.size : Int) 4 ++ a ∧ (pl.out a).size = 4 + a.size := by
  have hf : pi.fits (a.size : Int) 4 = true := by simp [pi.fits, sz.mostOf]; omega
  have e : pl.out a = pi.text (a.size : Int) 4 ++ a := by unfold pl.out; rw [if_pos h]
  have hs := np.text_size hf
  exact ⟨hf, e, by rw [e, ByteArray.size_append]; omega⟩

end Go.Proofs.YtjnfljipomjcjaaGreatDoor.sp

/- Batches and records on bytes: what is put is read again, and what is read was put; of a log that is cut off or spoilt in its last record the records ahead are left. -/
namespace Go.Proofs.YtjnfljipomjcjaaGreatDoor.rro
open Go.ChangeShapes Go.WideShapes Go.ChangeAt Go.RowKit Go.Proofs.YtjnfljipomjcjaaGreatDoor.fl Go.Proofs.YtjnfljipomjcjaaGreatDoor.gbp Go.Proofs.YtjnfljipomjcjaaGreatDoor.rcp Go.Proofs.YtjnfljipomjcjaaGreatDoor.bo
set_option linter.unusedVariables false

theorem assoc (a b c : ByteArray) : a ++ b ++ c = a ++ (b ++ c) := by apply ByteArray.ext; apply Array.toList_inj.1; simp
theorem nil_app (a : ByteArray) : (⟨#[]⟩ : ByteArray) ++ a = a := by apply ByteArray.ext; apply Array.toList_inj.1; simp
theorem app_nil (a : ByteArray) : a ++ (⟨#[]⟩ : ByteArray) = a := by apply ByteArray.ext; apply Array.toList_inj.1; simp
theorem read_short {a : ByteArray} (h : a.size ≤ 255) (p q : ByteArray) : gs.text (p ++ ps.out a ++ q) p.size = a ∧ gs.behind (p ++ ps.out a ++ q) p.size = p.size + ((ps.out a).size : Int) ∧ gs.here (p ++ ps.out a ++ q) p.size = true := by
  obtain ⟨hf, e, hsz⟩ := sp.short_out h
  have ht := np.text_size hf
  have e1 : p ++ ps.out a ++ q = p ++ pi.text (a.size : Int) 1 ++ (a ++ q) := by (rw [e]; simp only [assoc])
  obtain ⟨hn, hs, hok⟩ := np.read_put hf p (a ++ q)
  rw [← e1] at hn hs hok
  have hall : (p ++ ps.out a ++ q).size = p.size + (1 + a.size) + q.size := by simp [ByteArray.size_append]; omega
  have hh : gs.here (p ++ ps.out a ++ q) p.size = true := by
    simp only [gs.here, hok, hn, hs, Bool.true_and, Bool.and_eq_true, decide_eq_true_eq]
    omega
  refine ⟨?_, by simp only [gs.behind, hh, if_true, hn, hs]; omega, hh⟩
  simp only [gs.text, hh, if_true, hn, hs]
  have hm := np.extract_mid (p ++ pi.text (a.size : Int) 1) a q
  have e2 : p ++ pi.text (a.size : Int) 1 ++ a ++ q = p ++ ps.out a ++ q := by (rw [e]; simp only [assoc])
  rw [e2, show (p ++ pi.text (a.size : Int) 1).size = p.size + 1 by rw [ByteArray.size_append]; omega] at hm
  rw [show ((p.size : Int) + 1).toNat = p.size + 1 by omega, show ((a.size : Int)).toNat = a.size by omega]
  exact hm
theorem read_long {a : ByteArray} (h : a.size ≤ 100000) (p q : ByteArray) : gl.text (p ++ pl.out a ++ q) p.size = a ∧ gl.behind (p ++ pl.out a ++ q) p.size = p.size + ((pl.out a).size : Int) ∧ gl.here (p ++ pl.out a ++ q) p.size = true := by
  obtain ⟨hf, e, hsz⟩ := sp.long_out h
  have ht := np.text_size hf
  have e1 : p ++ pl.out a ++ q = p ++ pi.text (a.size : Int) 4 ++ (a ++ q) := by (rw [e]; simp only [assoc])
  obtain ⟨hn, hs, hok⟩ := np.read_put hf p (a ++ q)
  rw [← e1] at hn hs hok
  have hall : (p ++ pl.out a ++ q).size = p.size + (4 + a.size) + q.size := by simp [ByteArray.size_append]; omega
  have hh : gl.here (p ++ pl.out a ++ q) p.size = true := by
    simp only [gl.here, hok, hn, hs, Bool.true_and, Bool.and_eq_true, decide_eq_true_eq]
    omega
  refine ⟨?_, by simp only [gl.behind, hh, if_true, hn, hs]; omega, hh⟩
  simp only [gl.text, hh, if_true, hn, hs]
  have hm := np.extract_mid (p ++ pi.text (a.size : Int) 4) a q
  have e2 : p ++ pi.text (a.size : Int) 4 ++ a ++ q = p ++ pl.out a ++ q := by (rw [e]; simp only [assoc])
  rw [e2, show (p ++ pi.text (a.size : Int) 4).size = p.size + 4 by rw [ByteArray.size_append]; omega] at hm
  rw [show ((p.size : Int) + 4).toNat = p.size + 4 by omega, show ((a.size : Int)).toNat = a.size by omega]
  exact hm
theorem fits1 {n : Nat} (h : n ≤ 255) : pi.fits (n : Int) 1 = true := by simp [pi.fits, sz.mostOf]; omega
theorem fits4 {n : Nat} (h : n < 4294967296) : pi.fits (n : Int) 4 = true := by simp [pi.fits, sz.mostOf]; omega
theorem text0 : pi.text 0 1 = ⟨#[0]⟩ := by decide +kernel
theorem text1 : pi.text 1 1 = ⟨#[1]⟩ := by decide +kernel
/-- a pair that was put is read again, wherever it stands -/
theorem one_read {e : flP.Pr} (h : okP e) (p q : ByteArray) : stp (p ++ pb.one e ++ q) p.size = some (e, p.size + ((pb.one e).size : Int)) := by
  obtain ⟨k, v, g⟩ := e
  obtain ⟨h1, h2, h3, h4⟩ := h
  simp only at h1 h2 h3 h4
  cases g with
  | true =>
    obtain rfl := h4 rfl
    have eo : pb.one ⟨k, ⟨#[]⟩, true⟩ = pi.text (1 : Nat) 1 ++ ps.out k := by unfold pb.one; rw [if_pos rfl, ← text1]; rfl
    have hf := fits1 (n := 1) (by omega)
    have ht := np.text_size hf
    have e1 : p ++ (pi.text (1 : Nat) 1 ++ ps.out k) ++ q = p ++ pi.text (1 : Nat) 1 ++ (ps.out k ++ q) := by simp only [assoc]
    have e2 : p ++ (pi.text (1 : Nat) 1 ++ ps.out k) ++ q = (p ++ pi.text (1 : Nat) 1) ++ ps.out k ++ q := by rw [← assoc p]
    obtain ⟨n1, n2, n3⟩ := np.read_put hf p (ps.out k ++ q)
    rw [← e1] at n1 n2 n3
    obtain ⟨t1, t2, t3⟩ := read_short (a := k) (by omega) (p ++ pi.text (1 : Nat) 1) q
    rw [← e2, show (((p ++ pi.text (1 : Nat) 1).size : Nat) : Int) = (p.size : Int) + 1 by rw [ByteArray.size_append]; omega] at t1 t2 t3
    rw [eo]
    unfold stp
    rw [n3, t3, n1, if_pos (by simp), if_pos (show ((1 : Nat) : Int) = 1 from rfl), t1, t2, show ((pi.text ((1 : Nat) : Int) 1 ++ ps.out k).size : Int) = 1 + ((ps.out k).size : Int) by rw [ByteArray.size_append]; omega]
    congr 2
    omega
  | false =>
    have eo : pb.one ⟨k, v, false⟩ = pi.text (0 : Nat) 1 ++ ps.out k ++ pl.out v := by unfold pb.one; rw [if_neg (by simp), ← text0]; rfl
    have hf := fits1 (n := 0) (by omega)
    have ht := np.text_size hf
    have e1 : p ++ (pi.text (0 : Nat) 1 ++ ps.out k ++ pl.out v) ++ q = p ++ pi.text (0 : Nat) 1 ++ (ps.out k ++ pl.out v ++ q) := by simp only [assoc]
    have e2 : p ++ (pi.text (0 : Nat) 1 ++ ps.out k ++ pl.out v) ++ q = (p ++ pi.text (0 : Nat) 1) ++ ps.out k ++ (pl.out v ++ q) := by simp only [assoc]
    have e3 : p ++ (pi.text (0 : Nat) 1 ++ ps.out k ++ pl.out v) ++ q = (p ++ pi.text (0 : Nat) 1 ++ ps.out k) ++ pl.out v ++ q := by simp only [assoc]
    obtain ⟨n1, n2, n3⟩ := np.read_put hf p (ps.out k ++ pl.out v ++ q)
    rw [← e1] at n1 n2 n3
    obtain ⟨t1, t2, t3⟩ := read_short (a := k) (by omega) (p ++ pi.text (0 : Nat) 1) (pl.out v ++ q)
    rw [← e2, show (((p ++ pi.text (0 : Nat) 1).size : Nat) : Int) = (p.size : Int) + 1 by rw [ByteArray.size_append]; omega] at t1 t2 t3
    obtain ⟨l1, l2, l3⟩ := read_long (a := v) (by omega) (p ++ pi.text (0 : Nat) 1 ++ ps.out k) q
    rw [← e3, show (((p ++ pi.text (0 : Nat) 1 ++ ps.out k).size : Nat) : Int) = (p.size : Int) + 1 + ((ps.out k).size : Int) by rw [ByteArray.size_append, ByteArray.size_append]; omega] at l1 l2 l3
    rw [eo]
    unfold stp
    rw [n3, t3, n1, if_pos (by simp), if_neg (by simp), t1, t2, if_pos l3, l1, l2, show ((pi.text ((0 : Nat) : Int) 1 ++ ps.out k ++ pl.out v).size : Int) = 1 + ((ps.out k).size : Int) + ((pl.out v).size : Int) by rw [ByteArray.size_append, ByteArray.size_append]; omega]
    congr 2
    omega
theorem all_read : ∀ (l : List flP.Pr), (∀ e ∈ l, okP e) → ∀ (p q : ByteArray), rn (p ++ pb.all l ++ q) l.length p.size = some (l, p.size + ((pb.all l).size : Int))
  | [], _, p, q => by
    show some (([] : List flP.Pr), (p.size : Int)) = some ([], (p.size : Int) + ((0 : Nat) : Int))
    simp
  | e :: l, h, p, q => by
    have h1 := one_read (h e (by simp)) p (pb.all l ++ q)
    have e1 : p ++ pb.all (e :: l) ++ q = p ++ pb.one e ++ (pb.all l ++ q) := by simp only [pb.all]; simp only [assoc]
    have e2 : p ++ pb.all (e :: l) ++ q = (p ++ pb.one e) ++ pb.all l ++ q := by simp only [pb.all]; rw [← assoc p]
    have h2 := all_read l (fun x hx => h x (by simp [hx])) (p ++ pb.one e) q
    rw [← e1] at h1
    rw [← e2, show (((p ++ pb.one e).size : Nat) : Int) = (p.size : Int) + ((pb.one e).size : Int) by rw [ByteArray.size_append]; omega] at h2
    simp only [List.length_cons, rn, h1, h2]
    congr 2
    simp only [pb.all, ByteArray.size_append]
    omega
theorem okb_all {l : List flP.Pr} (h : okb l = true) : l.length ≤ 60 ∧ ∀ e ∈ l, okP e := by
  have h1 : OkB l := by unfold okb at h; exact (@decide_eq_true_iff _ (Classical.propDecidable _)).1 h
  refine ⟨h1.1, fun e he => ?_⟩
  obtain ⟨i, hi⟩ := List.mem_iff_getElem?.1 he
  exact h1.2 i e hi
/-- a batch comes back from its bytes -/
theorem got_put {l : List flP.Pr} (h : okb l = true) : got (pb.out l) = some l := by
  obtain ⟨h60, hall⟩ := okb_all h
  have hf := fits1 (n := l.length) (by omega)
  have ht := np.text_size hf
  have eo : pb.out l = pi.text l.length 1 ++ pb.all l := by unfold pb.out; rw [if_pos h]
  have e1 : pi.text l.length 1 ++ pb.all l = (⟨#[]⟩ : ByteArray) ++ pi.text l.length 1 ++ pb.all l := by rw [nil_app]
  have e2 : pi.text l.length 1 ++ pb.all l = pi.text l.length 1 ++ pb.all l ++ (⟨#[]⟩ : ByteArray) := by rw [app_nil]
  obtain ⟨n1, _, n3⟩ := np.read_put hf (⟨#[]⟩ : ByteArray) (pb.all l)
  rw [← e1] at n1 n3
  have hz : (((⟨#[]⟩ : ByteArray).size : Nat) : Int) = 0 := rfl
  rw [hz] at n1 n3
  have hr := all_read l hall (pi.text l.length 1) (⟨#[]⟩ : ByteArray)
  rw [← e2, ht] at hr
  rw [eo]
  unfold got
  rw [n3, n1, if_pos (by simp; omega), show ((l.length : Int)).toNat = l.length by omega, hr]
  simp only
  rw [if_pos]
  rw [h, Bool.and_true, decide_eq_true_eq, ByteArray.size_append]
  omega
theorem stp_back {s : ByteArray} {i j : Int} {e : flP.Pr} (h : stp s i = some (e, j)) : 0 ≤ i ∧ i ≤ j ∧ j ≤ s.size ∧ pb.one e = s.extract i.toNat j.toNat := by
  unfold stp at h
  split at h
  · rename_i hc
    simp only [Bool.and_eq_true, decide_eq_true_eq] at hc
    obtain ⟨c1, c2, c3⟩ := hc
    have hp := np.put_read s i 1 c1
    have hi : 0 ≤ i ∧ 0 ≤ gi.num s i 1 := by
      have := gs.parts s i c1
      unfold gi.okAt at c1
      simp only [Bool.and_eq_true, decide_eq_true_eq] at c1
      omega
    obtain ⟨b0, b1, b2, b3, b4⟩ := sp.short_back c2
    split at h
    · rename_i hg
      obtain ⟨rfl, rfl⟩ := Prod.mk.inj (Option.some.inj h)
      refine ⟨hi.1, by omega, by omega, ?_⟩
      unfold pb.one
      rw [if_pos rfl]
      simp only
      have ht : (⟨#[1]⟩ : ByteArray) = s.extract i.toNat (i.toNat + 1) := by rw [← text1]; rw [hg] at hp; exact hp
      rw [b4, ht, show (i + 1).toNat = i.toNat + 1 by omega]
      exact np.extract_join s _ _ _ (by omega) (by omega)
    · rename_i hg
      split at h
      · rename_i hl
        obtain ⟨rfl, rfl⟩ := Prod.mk.inj (Option.some.inj h)
        obtain ⟨d0, d1, d2, d3, d4⟩ := sp.long_back hl
        have h0 : gi.num s i 1 = 0 := by omega
        refine ⟨hi.1, by omega, by omega, ?_⟩
        unfold pb.one
        rw [if_neg (by simp)]
        simp only
        have ht : (⟨#[0]⟩ : ByteArray) = s.extract i.toNat (i.toNat + 1) := by rw [← text0]; rw [h0] at hp; exact hp
        rw [b4, d4, ht, show (i + 1).toNat = i.toNat + 1 by omega]
        rw [np.extract_join s _ _ _ (by omega) (by omega)]
        exact np.extract_join s _ _ _ (by omega) (by omega)
      · cases h
  · cases h
theorem rn_back (s : ByteArray) : ∀ (k : Nat) (i : Int) (l : List flP.Pr) (e : Int), 0 ≤ i → i ≤ s.size → rn s k i = some (l, e) → i ≤ e ∧ e ≤ s.size ∧ pb.all l = s.extract i.toNat e.toNat
  | 0, i, l, e, h0, h1, h => by
    simp only [rn, Option.some.injEq, Prod.mk.injEq] at h
    obtain ⟨rfl, rfl⟩ := h
    refine ⟨by omega, h1, ?_⟩
    apply ByteArray.ext
    apply Array.toList_inj.1
    rw [Lib.extract_data]
    simp [pb.all]
  | k + 1, i, l, e, h0, h1, h => by
    unfold rn at h
    cases hs : stp s i with
    | none => rw [hs] at h; simp at h
    | some x =>
      obtain ⟨p, j⟩ := x
      rw [hs] at h
      simp only at h
      cases h2 : rn s k j with
      | none => rw [h2] at h; simp at h
      | some y =>
        obtain ⟨m, z⟩ := y
        rw [h2] at h
        simp only [Option.some.injEq, Prod.mk.injEq] at h
        obtain ⟨rfl, rfl⟩ := h
        obtain ⟨a0, a1, a2, a3⟩ := stp_back hs
        obtain ⟨b1, b2, b3⟩ := rn_back s k j m z (by omega) a2 h2
        refine ⟨by omega, b2, ?_⟩
        simp only [pb.all]
        rw [a3, b3]
        exact np.extract_join s _ _ _ (by omega) (by omega)
theorem whole (s : ByteArray) : s.extract 0 s.size = s := by
  apply ByteArray.ext
  apply Array.toList_inj.1
  rw [Lib.extract_data, List.drop_zero, Nat.sub_zero]
  exact List.take_of_length_le (by simp)
/-- what is read as a batch are its bytes -/
theorem put_got {s : ByteArray} {l : List flP.Pr} (h : got s = some l) : okb l = true ∧ pb.out l = s ∧ 1 ≤ s.size := by
  unfold got at h
  split at h
  · rename_i hc
    simp only [Bool.and_eq_true, decide_eq_true_eq] at hc
    have hp := np.put_read s 0 1 hc.1
    have hn : 0 ≤ gi.num s 0 1 ∧ 1 ≤ s.size := by
      have h1 := gs.parts s 0 hc.1
      have h2 := hc.1
      unfold gi.okAt at h2
      simp only [Bool.and_eq_true, decide_eq_true_eq] at h2
      omega
    cases hr : rn s (gi.num s 0 1).toNat 1 with
    | none => rw [hr] at h; cases h
    | some x =>
      obtain ⟨m, e⟩ := x
      rw [hr] at h
      simp only at h
      split at h
      · rename_i h2
        simp only [Bool.and_eq_true, decide_eq_true_eq] at h2
        obtain ⟨rfl, hok⟩ := h2
        cases h
        have hlen := rn_len s _ _ _ _ hr
        obtain ⟨_, _, hb⟩ := rn_back s _ _ _ _ (by omega) (by omega) hr
        refine ⟨hok, ?_, hn.2⟩
        unfold pb.out
        rw [if_pos hok, hlen, hb, show (((gi.num s 0 1).toNat : Nat) : Int) = gi.num s 0 1 by omega, hp]
        have := np.extract_join s 0 1 s.size (by omega) (by omega)
        rw [whole] at this
        exact this
      · cases h
  · cases h
theorem gotB_back {s : ByteArray} (h : gotB s = true) : okb (gotL s) = true ∧ pb.out (gotL s) = s ∧ 1 ≤ s.size := by
  unfold gotB at h
  cases hg : got s with
  | none => rw [hg] at h; cases h
  | some l =>
    have := put_got hg
    unfold gotL
    rw [hg]
    exact this
theorem out_pos {l : List flP.Pr} : (pb.out l).size = 0 ↔ okb l = false := by
  cases h : okb l with
  | false => unfold pb.out; rw [if_neg (by rw [h]; simp)]; exact ⟨fun _ => rfl, fun _ => rfl⟩
  | true =>
    have := (put_got (got_put h)).2.2
    simp only [Bool.true_eq_false, iff_false]
    omega
/-- a record: its sum, its body -/
def R (c : Nat) (b : ByteArray) : ByteArray := pi.text c 4 ++ pl.out b
theorem R_size {c : Nat} {b : ByteArray} (hc : c < 4294967296) (hb : b.size ≤ 100000) : (R c b).size = 8 + b.size := by
  have h1 := np.text_size (fits4 hc)
  have h2 := (sp.long_out hb).2.2
  unfold R
  rw [ByteArray.size_append]
  omega
theorem R_read {c : Nat} {b : ByteArray} (hc : c < 4294967296) (hb : b.size ≤ 100000) (p q : ByteArray) : isR (p ++ R c b ++ q) p.size = (decide ((c : Int) = (cs.sum b : Int)) && gotB b) ∧ bat (p ++ R c b ++ q) p.size = gotL b ∧ nxt (p ++ R c b ++ q) p.size = p.size + ((R c b).size : Int) := by
  have hf := fits4 hc
  have ht := np.text_size hf
  have e1 : p ++ R c b ++ q = p ++ pi.text c 4 ++ (pl.out b ++ q) := by unfold R; simp only [assoc]
  have e2 : p ++ R c b ++ q = (p ++ pi.text c 4) ++ pl.out b ++ q := by unfold R; rw [← assoc p]
  obtain ⟨n1, _, n3⟩ := np.read_put hf p (pl.out b ++ q)
  rw [← e1] at n1 n3
  obtain ⟨t1, t2, t3⟩ := read_long hb (p ++ pi.text c 4) q
  rw [← e2, show (((p ++ pi.text c 4).size : Nat) : Int) = (p.size : Int) + 4 by rw [ByteArray.size_append]; omega] at t1 t2 t3
  refine ⟨?_, ?_, ?_⟩
  · unfold isR
    rw [n3, t3, n1, t1]
    simp
  · unfold bat
    rw [t1]
  · unfold nxt
    rw [t2]
    unfold R
    rw [ByteArray.size_append]
    omega
theorem isR_back {s : ByteArray} {i : Int} (h : isR s i = true) : 0 ≤ i ∧ i ≤ nxt s i ∧ nxt s i ≤ s.size ∧ rcd.out (bat s i) = s.extract i.toNat (nxt s i).toNat ∧ (rcd.out (bat s i)).size ≠ 0 := by
  have hin := isR_in h
  unfold isR at h
  simp only [Bool.and_eq_true, decide_eq_true_eq] at h
  obtain ⟨h1, h2, h3, h4⟩ := h
  obtain ⟨k1, k2, k3⟩ := gotB_back h4
  obtain ⟨b0, b1, b2, b3, b4⟩ := sp.long_back h2
  have hp := np.put_read s i 4 h1
  have hs : (gl.text s (i + 4)).size ≤ 100000 := by
    have hh := h2
    unfold gl.text
    rw [if_pos h2]
    unfold gl.here at hh
    simp only [Bool.and_eq_true, decide_eq_true_eq] at hh
    rw [ByteArray.size_extract]
    omega
  have e : rcd.out (bat s i) = s.extract i.toNat (nxt s i).toNat := by
    unfold rcd.out bat
    rw [k2, if_neg (by omega), ← h3, hp, b4, show (4 : Int).toNat = 4 from rfl, show (i + 4).toNat = i.toNat + 4 by omega]
    unfold nxt
    exact np.extract_join s _ _ _ (by omega) (by omega)
  refine ⟨hin.1, by omega, hin.2.2, e, ?_⟩
  rw [e, ByteArray.size_extract]
  omega
/-- the bytes of batches, one record behind the other -/
noncomputable def cat : List (List flP.Pr) → ByteArray
  | [] => ⟨#[]⟩
  | b :: l => rcd.out b ++ cat l
theorem cat_snoc (l : List (List flP.Pr)) (b : List flP.Pr) : cat (l ++ [b]) = cat l ++ rcd.out b := by
  induction l with
  | nil => simp only [List.nil_append, cat]; rw [app_nil, nil_app]
  | cons x l ih => simp only [List.cons_append, cat, ih]; simp only [assoc]
/-- a batch that has a record -/
def Rok (b : List flP.Pr) : Prop := (rcd.out b).size ≠ 0
theorem rok_form {b : List flP.Pr} (h : Rok b) : okb b = true ∧ (pb.out b).size ≤ 100000 ∧ rcd.out b = R (cs.sum (pb.out b)) (pb.out b) ∧ 1 ≤ (pb.out b).size := by
  unfold Rok rcd.out at h
  split at h
  · exact absurd rfl h
  · rename_i hn
    have h1 : ¬ (pb.out b).size = 0 := fun e => hn (.inl e)
    have h2 : ¬ 100000 < (pb.out b).size := fun e => hn (.inr e)
    refine ⟨?_, by omega, by unfold rcd.out R; rw [if_neg hn], by omega⟩
    cases ho : okb b with
    | true => rfl
    | false => exact absurd (out_pos.2 ho) h1
theorem rok_read {b : List flP.Pr} (h : Rok b) (p q : ByteArray) : isR (p ++ rcd.out b ++ q) p.size = true ∧ bat (p ++ rcd.out b ++ q) p.size = b ∧ nxt (p ++ rcd.out b ++ q) p.size = p.size + ((rcd.out b).size : Int) := by
  obtain ⟨h1, h2, h3, _⟩ := rok_form h
  obtain ⟨g1, g2⟩ := got_some (got_put h1)
  rw [h3]
  obtain ⟨r1, r2, r3⟩ := R_read (sp.sum_lt _) h2 p q
  refine ⟨by rw [r1, g2]; simp, by rw [r2, g1], r3⟩
theorem left_cat (q : ByteArray) (m : List (List flP.Pr)) : ∀ (l R : List (List flP.Pr)), (∀ b ∈ l, Rok b) → rcp.Left (cat R ++ cat l ++ q) R ((cat R).size : Nat) → rcp.Left (cat (R ++ l) ++ q) (R ++ l) ((cat (R ++ l)).size : Nat)
  | [], R, _, h => by
    simp only [cat] at h
    rw [app_nil] at h
    simpa using h
  | b :: l, R, hr, h => by
    obtain ⟨r1, r2, r3⟩ := rok_read (hr b (by simp)) (cat R) (cat l ++ q)
    have e1 : cat R ++ cat (b :: l) ++ q = cat R ++ rcd.out b ++ (cat l ++ q) := by simp only [cat]; simp only [assoc]
    rw [e1] at h
    have h2 := rcp.left_yes h r1
    rw [r2, r3] at h2
    have e2 : cat R ++ rcd.out b ++ (cat l ++ q) = cat (R ++ [b]) ++ cat l ++ q := by (rw [cat_snoc]; simp only [assoc])
    rw [e2, show ((cat R).size : Int) + ((rcd.out b).size : Int) = (((cat (R ++ [b])).size : Nat) : Int) by rw [cat_snoc, ByteArray.size_append]; omega] at h2
    have h3 := left_cat q m l (R ++ [b]) (fun x hx => hr x (by simp [hx])) h2
    rwa [List.append_assoc, List.singleton_append] at h3
/-- records one behind the other are read one by one; behind them, where none stands, it ends -/
theorem recs_cat {l : List (List flP.Pr)} {q : ByteArray} (hr : ∀ b ∈ l, Rok b) (hs : (cat l ++ q).size ≤ 200000) (hn : isR (cat l ++ q) ((cat l).size : Nat) = false) : recs (cat l ++ q) = (l, (((cat l).size : Nat) : Int)) := by
  have h0 : rcp.Left (cat [] ++ cat l ++ q) [] ((cat []).size : Nat) := rcp.left_0 _
  have h1 := left_cat q [] l [] hr h0
  rw [List.nil_append] at h1
  exact rcp.left_end hs h1 hn
/-- what is read of a log are the records of its beginning -/
theorem recs_form {s : ByteArray} (hs : s.size ≤ 200000) : (∀ b ∈ (recs s).1, Rok b) ∧ (recs s).2 = ((cat (recs s).1).size : Nat) ∧ s.extract 0 (cat (recs s).1).size = cat (recs s).1 ∧ (cat (recs s).1).size ≤ s.size := by
  suffices h : ∀ (d : Nat) (R : List (List flP.Pr)) (i : Int), rcp.Left s R i → (∀ b ∈ R, Rok b) → i = ((cat R).size : Nat) → s.extract 0 (cat R).size = cat R → s.size - i.toNat ≤ d → (∀ b ∈ (recs s).1, Rok b) ∧ (recs s).2 = ((cat (recs s).1).size : Nat) ∧ s.extract 0 (cat (recs s).1).size = cat (recs s).1 ∧ (cat (recs s).1).size ≤ s.size from
    h (s.size + 1) [] 0 (rcp.left_0 s) (fun b hb => by cases hb) rfl (by apply ByteArray.ext; apply Array.toList_inj.1; rw [Lib.extract_data]; exact List.take_zero) (by omega)
  intro d
  induction d with
  | zero =>
    intro R i h h1 h2 h3 h4
    have hh := h.hi
    rw [rcp.left_end hs h (rcp.isR_end (by have := h.far; omega))]
    exact ⟨h1, h2, h3, by show (cat R).size ≤ s.size; omega⟩
  | succ d ih =>
    intro R i h h1 h2 h3 h4
    have hh := h.hi
    cases hr : isR s i with
    | false =>
      rw [rcp.left_end hs h hr]
      exact ⟨h1, h2, h3, by show (cat R).size ≤ s.size; omega⟩
    | true =>
      obtain ⟨b0, b1, b2, b3, b4⟩ := isR_back hr
      have hin := isR_in hr
      have hsz : (rcd.out (bat s i)).size = (nxt s i).toNat - i.toNat := by rw [b3, ByteArray.size_extract]; omega
      refine ih _ _ (rcp.left_yes h hr) (fun b hb => ?_) ?_ ?_ (by omega)
      · rcases List.mem_append.1 hb with hb | hb
        · exact h1 b hb
        · rw [List.mem_singleton.1 hb]; exact b4
      · rw [cat_snoc, ByteArray.size_append]; omega
      · have e0 : (cat R).size + (rcd.out (bat s i)).size = (nxt s i).toNat := by omega
        rw [cat_snoc, ByteArray.size_append, e0, b3]
        conv => rhs; rw [← h3, show (cat R).size = i.toNat by omega]
        exact (np.extract_join s _ _ _ (by omega) (by omega)).symm
/-- one record more -/
theorem recs_more {l : List (List flP.Pr)} {b : List flP.Pr} (hr : ∀ x ∈ l, Rok x) (hb : Rok b) (hs : (cat l ++ rcd.out b).size ≤ 200000) : recs (cat l ++ rcd.out b) = (l ++ [b], (((cat l ++ rcd.out b).size : Nat) : Int)) := by
  have e : cat l ++ rcd.out b = cat (l ++ [b]) ++ (⟨#[]⟩ : ByteArray) := by rw [cat_snoc, app_nil]
  have h := recs_cat (l := l ++ [b]) (q := (⟨#[]⟩ : ByteArray)) (fun x hx => by
    rcases List.mem_append.1 hx with hx | hx
    · exact hr x hx
    · rw [List.mem_singleton.1 hx]; exact hb) (by rw [← e]; exact hs) (rcp.isR_end (by rw [app_nil]; omega))
  rw [← e] at h
  rw [h, cat_snoc]
/-- of a record that is cut off nothing is left -/
theorem recs_cut {l : List (List flP.Pr)} {b : List flP.Pr} (hr : ∀ x ∈ l, Rok x) (hb : Rok b) (hs : (cat l ++ rcd.out b).size ≤ 200000) : recs ((cat l ++ rcd.out b).extract 0 ((cat l ++ rcd.out b).size - 1)) = (l, (((cat l).size : Nat) : Int)) := by
  obtain ⟨_, h2, h3, h4⟩ := rok_form hb
  generalize pb.out b = y at h2 h3 h4
  obtain ⟨hf, hl, hls⟩ := sp.long_out h2
  have hf4 := fits4 (sp.sum_lt y)
  have ht := np.text_size hf4
  have ht2 := np.text_size hf
  have hsz := R_size (sp.sum_lt y) h2
  have e : (cat l ++ rcd.out b).extract 0 ((cat l ++ rcd.out b).size - 1) = cat l ++ (pi.text (cs.sum y : Nat) 4 ++ pi.text (y.size : Int) 4 ++ y.extract 0 (y.size - 1)) := by
    rw [h3]
    unfold R at hsz ⊢
    rw [hl] at hsz ⊢
    apply ByteArray.ext
    apply Array.toList_inj.1
    rw [Lib.extract_data]
    simp only [ByteArray.data_append, Array.toList_append, Lib.extract_data, List.drop_zero, Nat.sub_zero]
    have l1 : ∀ a : ByteArray, a.data.toList.length = a.size := fun a => by simp
    rw [← List.append_assoc, ← List.append_assoc, ← List.append_assoc, ← List.append_assoc, List.take_append, List.take_of_length_le (by simp only [List.length_append, l1, ByteArray.size_append] at hsz ⊢; omega)]
    congr 2
    simp only [List.length_append, l1, ByteArray.size_append] at hsz ⊢
    omega
  rw [e]
  refine recs_cat hr ?_ ?_
  · rw [h3, ByteArray.size_append, hsz] at hs
    simp only [ByteArray.size_append, ByteArray.size_extract]
    omega
  · have e2 : cat l ++ (pi.text (cs.sum y : Nat) 4 ++ pi.text (y.size : Int) 4 ++ y.extract 0 (y.size - 1)) = cat l ++ pi.text (cs.sum y : Nat) 4 ++ pi.text (y.size : Int) 4 ++ y.extract 0 (y.size - 1) := by simp only [assoc]
    obtain ⟨n1, n2, n3⟩ := np.read_put hf (cat l ++ pi.text (cs.sum y : Nat) 4) (y.extract 0 (y.size - 1))
    rw [e2]
    rw [show (((cat l ++ pi.text (cs.sum y : Nat) 4).size : Nat) : Int) = ((cat l).size : Int) + 4 by rw [ByteArray.size_append]; omega] at n1 n2 n3
    have hh : gl.here (cat l ++ pi.text (cs.sum y : Nat) 4 ++ pi.text (y.size : Int) 4 ++ y.extract 0 (y.size - 1)) (((cat l).size : Int) + 4) = false := by
      unfold gl.here
      rw [n1, n2]
      simp only [Bool.and_eq_false_iff, decide_eq_false_iff_not]
      right
      simp only [ByteArray.size_append, ByteArray.size_extract]
      omega
    unfold isR
    rw [hh]
    simp
/-- of a record whose body has a byte changed nothing is left -/
theorem recs_spoilt {l : List (List flP.Pr)} {b : List flP.Pr} {z : ByteArray} {j : Nat} (hr : ∀ x ∈ l, Rok x) (hb : Rok b) (hs : (cat l ++ rcd.out b).size ≤ 200000) (hz : z.size = (pb.out b).size) (hj : j < z.size) (ho : ∀ i, i ≠ j → cs.bt z i = cs.bt (pb.out b) i) (hd : cs.bt z j ≠ cs.bt (pb.out b) j) :
    recs (cat l ++ R (cs.sum (pb.out b)) z) = (l, (((cat l).size : Nat) : Int)) := by
  obtain ⟨_, h2, h3, h4⟩ := rok_form hb
  have hne := sp.sum_other (s := z) (t := pb.out b) (j := j) hz (by omega) ho hd
  have hsz := R_size (sp.sum_lt (pb.out b)) h2
  have hsz2 := R_size (c := cs.sum (pb.out b)) (b := z) (sp.sum_lt _) (by omega)
  refine recs_cat hr ?_ ?_
  · rw [h3, ByteArray.size_append, hsz] at hs
    rw [ByteArray.size_append, hsz2]
    omega
  · obtain ⟨r1, _, _⟩ := R_read (c := cs.sum (pb.out b)) (b := z) (sp.sum_lt _) (by omega) (cat l) (⟨#[]⟩ : ByteArray)
    rw [app_nil] at r1
    rw [r1, Bool.and_eq_false_iff, decide_eq_false_iff_not]
    left
    omega
end Go.Proofs.YtjnfljipomjcjaaGreatDoor.rro
