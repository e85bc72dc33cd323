/- A number comes back from its bytes wherever they stand, and no other bytes are its. -/
import Derived.Test.YtnmooolnmhidbaaDoorGetIntWalks
import Derived.Test.YtnmooolnmhidbaaDoorPutIntWalks
import Derived.Lib.IndexBytes
namespace Go.Proofs.YtnmooolnmhidbaaDoor.np
open Go.Proofs.YtnmooolnmhidbaaDoor.sz

/-- the number of k bytes from place i on, as a natural number -/
def G (s : ByteArray) (i k : Nat) : Nat := (gi.gi s i k).toNat
theorem G_eq (s : ByteArray) (i k : Nat) : gi.gi s i k = (G s i k : Int) := by
  have := (gi.gi_bound s i k).1
  unfold G
  omega
theorem G_succ (s : ByteArray) (i k : Nat) : G s i (k + 1) = 256 * G s i k + gi.bt s (i + k) := by
  have h := G_eq s i (k + 1)
  have h2 := G_eq s i k
  simp only [gi.gi] at h
  rw [h2] at h
  omega
theorem G_div (s : ByteArray) (i k : Nat) : ∀ m, G s i (k + m) / 256 ^ m = G s i k
  | 0 => by simp
  | m + 1 => by
    have hb := gi.bt_le s (i + (k + m))
    rw [show k + (m + 1) = (k + m) + 1 by omega, G_succ, Nat.pow_succ, Nat.mul_comm (256 ^ m) 256, ← Nat.div_div_eq_div_mul, show (256 * G s i (k + m) + gi.bt s (i + (k + m))) / 256 = G s i (k + m) by omega]
    exact G_div s i k m
theorem G_byte (s : ByteArray) (i z j : Nat) (h : j < z) : G s i z / 256 ^ (z - 1 - j) % 256 = gi.bt s (i + j) := by
  have h1 := G_div s i (j + 1) (z - 1 - j)
  rw [show j + 1 + (z - 1 - j) = z by omega] at h1
  have hb := gi.bt_le s (i + j)
  rw [h1, G_succ]
  omega

theorem lo_bytes (s : ByteArray) (i z : Nat) (h : i + z ≤ s.size) : strOfNums (pi.lo (G s i z) z) = s.extract i (i + z) := by
  apply ByteArray.ext
  apply Array.toList_inj.1
  rw [strOfNums_data, Lib.extract_data, show i + z - i = z by omega]
  apply List.ext_getElem?
  intro j
  by_cases hj : j < z
  · have h1 : (pi.lo (G s i z) z)[j]? = some ((gi.bt s (i + j) : Nat) : Int) := by
      have h2 := pi.lo_get (G s i z) z j hj
      rw [G_byte s i z j hj] at h2
      have hl : j < (pi.lo (G s i z) z).length := by rw [pi.lo_length]; exact hj
      rw [List.getElem?_eq_getElem hl]
      simp only [List.getD, List.getElem?_eq_getElem hl, Option.getD_some] at h2
      rw [h2]
    have h3 : i + j < s.size := by omega
    rw [List.getElem?_map, h1, List.getElem?_take_of_lt hj, List.getElem?_drop, Lib.data_getElem? s (i + j) h3]
    simp only [Option.map_some, Int.toNat_natCast]
    rw [← gi.bt_eq s (i + j) h3]
    simp
  · rw [List.getElem?_eq_none (by rw [List.length_map, pi.lo_length]; omega), List.getElem?_eq_none (by rw [List.length_take]; omega)]

/-- what is read is put again -/
theorem put_read (s : ByteArray) (i z : Int) (h : gi.okAt s i z = true) : pi.text (gi.num s i z) z = s.extract i.toNat (i.toNat + z.toNat) := by
  have h' := h
  simp only [gi.okAt, Bool.and_eq_true, decide_eq_true_eq] at h'
  have hz := size_of z (by omega)
  have hn : gi.num s i z = gi.gi s i.toNat z.toNat := by simp only [gi.num, h, if_true]
  have hfit : pi.fits (gi.num s i z) z = true := by
    rw [hn]
    have hb := gi.gi_bound s i.toNat z.toNat
    simp only [pi.fits, Bool.and_eq_true, decide_eq_true_eq]
    refine ⟨hb.1, ?_⟩
    rcases hz with rfl | rfl | rfl | rfl
    · have : (1 : Int).toNat = 1 := rfl
      rw [this] at hb ⊢
      simp [mostOf]; omega
    · have : (2 : Int).toNat = 2 := rfl
      rw [this] at hb ⊢
      simp [mostOf]; omega
    · have : (4 : Int).toNat = 4 := rfl
      rw [this] at hb ⊢
      simp [mostOf]; omega
    · have h7 : gi.bt s i.toNat ≤ 127 := by
        have := h'.2
        simp at this
        omega
      have hb7 := gi.gi_bound7 s i.toNat h7 7
      rw [show 7 + 1 = 8 from rfl] at hb7
      have : (8 : Int).toNat = 8 := rfl
      rw [this]
      simp [mostOf]; omega
  simp only [pi.text, hfit, if_true]
  rw [hn]
  exact lo_bytes s i.toNat z.toNat (by omega)

theorem bt_mid (p s q : ByteArray) (j : Nat) (hj : j < s.size) : gi.bt (p ++ s ++ q) (p.size + j) = gi.bt s j := by
  have e1 : (p ++ s ++ q).data.toList[p.size + j]? = s.data.toList[j]? := by
    simp only [ByteArray.data_append, Array.toList_append]
    have hpl : p.data.toList.length = p.size := by simp
    have hsl : s.data.toList.length = s.size := by simp
    rw [List.append_assoc, List.getElem?_append_right (by omega), hpl, show p.size + j - p.size = j by omega, List.getElem?_append_left (by omega)]
  have hs1 : p.size + j < (p ++ s ++ q).size := by simp [ByteArray.size_append]; omega
  rw [Lib.data_getElem? _ _ hs1, Lib.data_getElem? _ _ hj] at e1
  rw [← gi.bt_eq _ _ hs1, ← gi.bt_eq _ _ hj, Option.some.inj e1]

theorem text_fits {n z : Int} (h : pi.fits n z = true) : pi.text n z = strOfNums (pi.lo n.toNat z.toNat) := by simp only [pi.text, h, if_true]
theorem text_size {n z : Int} (h : pi.fits n z = true) : ((pi.text n z).size : Int) = z := by
  rw [text_fits h, strOfNums_size, pi.lo_length]
  simp only [pi.fits, Bool.and_eq_true, decide_eq_true_eq] at h
  have := size_of z (by omega)
  omega

theorem text_bt {n z : Int} (h : pi.fits n z = true) (j : Nat) (hj : j < z.toNat) : gi.bt (pi.text n z) j = n.toNat / 256 ^ (z.toNat - 1 - j) % 256 := by
  have hl : j < (pi.text n z).size := by have := text_size h; omega
  rw [← gi.bt_eq _ _ hl]
  have h1 := Lib.data_getElem? (pi.text n z) j hl
  have h2 : (pi.text n z).data.toList[j]? = some (UInt8.ofNat (n.toNat / 256 ^ (z.toNat - 1 - j) % 256)) := by
    rw [text_fits h, strOfNums_data]
    have h3 := pi.lo_get n.toNat z.toNat j hj
    have hl2 : j < (pi.lo n.toNat z.toNat).length := by rw [pi.lo_length]; exact hj
    simp only [List.getD, List.getElem?_eq_getElem hl2, Option.getD_some] at h3
    rw [List.getElem?_map, List.getElem?_eq_getElem hl2, h3]
    simp only [Option.map_some, Int.toNat_natCast]
  rw [h1] at h2
  rw [Option.some.inj h2, UInt8.toNat_ofNat']
  omega

theorem G_text {n z : Int} (h : pi.fits n z = true) (p q : ByteArray) : ∀ k, k ≤ z.toNat → n.toNat < 256 ^ z.toNat → G (p ++ pi.text n z ++ q) p.size k = n.toNat / 256 ^ (z.toNat - k)
  | 0, _, hn => by
    rw [Nat.sub_zero, Nat.div_eq_of_lt hn]
    rfl
  | k + 1, hk, hn => by
    have ih := G_text h p q k (by omega) hn
    have hsz := text_size h
    rw [G_succ, ih, bt_mid p _ q k (by omega), text_bt h k (by omega)]
    have e : z.toNat - k = (z.toNat - 1 - k) + 1 := by omega
    have e2 : z.toNat - (k + 1) = z.toNat - 1 - k := by omega
    rw [e2, e, Nat.pow_succ, ← Nat.div_div_eq_div_mul]
    omega

/-- what is put is read again, wherever it stands -/
theorem read_put {n z : Int} (h : pi.fits n z = true) (p q : ByteArray) :
    gi.num (p ++ pi.text n z ++ q) p.size z = n ∧ gi.stop (p ++ pi.text n z ++ q) p.size z = p.size + z ∧ gi.okAt (p ++ pi.text n z ++ q) p.size z = true := by
  have hsz := text_size h
  have h' := h
  simp only [pi.fits, Bool.and_eq_true, decide_eq_true_eq] at h'
  have hz := size_of z (by omega)
  have hlt : n.toNat < 256 ^ z.toNat := by
    have hle := h'.2
    rcases hz with rfl | rfl | rfl | rfl <;> simp [mostOf] at hle <;> simp <;> omega
  have hG := G_text h p q z.toNat (Nat.le_refl _) hlt
  rw [Nat.sub_self, Nat.pow_zero, Nat.div_one] at hG
  have hbig : (p ++ pi.text n z ++ q).size = p.size + (pi.text n z).size + q.size := by simp [ByteArray.size_append]
  have hok : gi.okAt (p ++ pi.text n z ++ q) p.size z = true := by
    simp only [gi.okAt, Bool.and_eq_true, decide_eq_true_eq, Bool.not_eq_true', Bool.and_eq_false_iff, decide_eq_false_iff_not]
    refine ⟨⟨⟨by omega, by omega⟩, by omega⟩, ?_⟩
    by_cases h8 : z = 8
    · right
      subst h8
      have e := bt_mid p (pi.text n 8) q 0 (by omega)
      rw [show ((p.size : Int)).toNat = p.size + 0 by omega, e, text_bt h 0 (by decide)]
      have hle := h'.2
      simp [mostOf] at hle
      rw [show (8 : Int).toNat - 1 - 0 = 7 from rfl]
      omega
    · exact .inl h8
  refine ⟨?_, by simp only [gi.stop, hok, if_true], hok⟩
  simp only [gi.num, hok, if_true]
  rw [show ((p.size : Int)).toNat = p.size by omega, G_eq, hG]
  omega

/-- two pieces one behind the other are one -/
theorem extract_join (s : ByteArray) (i j k : Nat) (h1 : i ≤ j) (h2 : j ≤ k) : s.extract i j ++ s.extract j k = s.extract i k := by
  apply ByteArray.ext
  apply Array.toList_inj.1
  rw [ByteArray.data_append, Array.toList_append, Lib.extract_data, Lib.extract_data, Lib.extract_data, show k - i = (j - i) + (k - j) by omega, List.take_add, List.drop_drop, show i + (j - i) = j by omega]
/-- the middle of three pieces -/
theorem extract_mid (p s q : ByteArray) : (p ++ s ++ q).extract p.size (p.size + s.size) = s := by
  apply ByteArray.ext
  apply Array.toList_inj.1
  rw [Lib.extract_data, ByteArray.data_append, Array.toList_append, ByteArray.data_append, Array.toList_append, List.append_assoc, show p.size + s.size - p.size = s.size by omega]
  have hpl : p.data.toList.length = p.size := by simp
  have hsl : s.data.toList.length = s.size := by simp
  rw [List.drop_append_of_le_length (by omega), List.drop_of_length_le (by omega), List.nil_append, List.take_append_of_le_length (by omega), List.take_of_length_le (by omega)]
end Go.Proofs.YtnmooolnmhidbaaDoor.np
