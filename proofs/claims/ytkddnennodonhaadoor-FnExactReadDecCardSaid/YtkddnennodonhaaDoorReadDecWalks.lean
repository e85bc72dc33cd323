/- The two readers of a decimal number, the specification's and the program's, answer alike at every text of at most 1048576 bytes, where the library's variables hold what its own text lays in them; they lay new memory alone. -/
import Derived.Test.YtkddnennodonhaaDoorDecTextWalks
import Derived.Test.YtkddnennodonhaaDoorDecTextImpl
import Derived.Test.YtkddnennodonhaaDoorAtoiLaid
import Derived.Lib.AtoiAll
import Derived.Lib.AtoiErrMem
import Derived.WalkSmall
namespace Go.Proofs.YtkddnennodonhaaDoor.rd
open Go.ChangeShapes Go.WideShapes Go.ChangeAt Go.RowKit

def digit (c : UInt8) : Prop := 48 ≤ c.toNat ∧ c.toNat ≤ 57
def fold (acc : Nat) (l : List UInt8) : Nat := l.foldl (fun a c => a * 10 + (c.toNat - 48)) acc
theorem fold_nil (acc : Nat) : fold acc [] = acc := rfl
theorem fold_cons (acc : Nat) (c : UInt8) (r : List UInt8) : fold acc (c :: r) = fold (acc * 10 + (c.toNat - 48)) r := by unfold fold; rw [List.foldl_cons]
theorem fold_snoc (l : List UInt8) (acc : Nat) (c : UInt8) : fold acc (l ++ [c]) = fold acc l * 10 + (c.toNat - 48) := by
  unfold fold; rw [List.foldl_append]; simp only [List.foldl_cons, List.foldl_nil]
theorem fold_lt (l : List UInt8) (h : ∀ c ∈ l, digit c) : ∀ acc : Nat, fold acc l < (acc + 1) * 10 ^ l.length := by
  induction l with
  | nil => intro acc; rw [fold_nil, List.length_nil]; omega
  | cons c r ih =>
    intro acc
    have hc := h c (by simp)
    have h1 := ih (fun x hx => h x (by simp [hx])) (acc * 10 + (c.toNat - 48))
    rw [fold_cons, List.length_cons]
    refine Nat.lt_of_lt_of_le h1 ?_
    rw [Nat.pow_succ, Nat.mul_comm (10 ^ r.length) 10, ← Nat.mul_assoc]
    exact Nat.mul_le_mul_right _ (by unfold digit at hc; omega)
theorem parse_eq (l : List UInt8) (h : ∀ c ∈ l, digit c) : ∀ acc : Nat, (acc + 1) * 10 ^ l.length ≤ 1000000000 → Lib.parseUint10 acc l = .ok (fold acc l) := by
  induction l with
  | nil => intro acc _; rw [fold_nil]; rfl
  | cons c r ih =>
    intro acc hb
    have hc := h c (by simp)
    have hp : 1 ≤ 10 ^ r.length := Nat.one_le_pow _ _ (by decide)
    rw [List.length_cons, Nat.pow_succ, Nat.mul_comm (10 ^ r.length) 10, ← Nat.mul_assoc] at hb
    have hacc : (acc + 1) * 10 ≤ 1000000000 := Nat.le_trans (Nat.le_mul_of_pos_right _ hp) hb
    unfold digit at hc
    rw [fold_cons, Lib.parseUint10]
    rw [if_pos hc, if_neg (by omega), if_neg (by omega)]
    exact ih (fun x hx => h x (by simp [hx])) _ (Nat.le_trans (Nat.mul_le_mul_right _ (by omega)) hb)
theorem pow_le9 {k : Nat} (h : k ≤ 9) : 10 ^ k ≤ 1000000000 := Nat.pow_le_pow_right (by decide) h
theorem atoi_digits (l : List UInt8) (hne : l ≠ []) (hlen : l.length ≤ 9) (h : ∀ c ∈ l, digit c) : Lib.atoiAll l = .ok (fold 0 l : Int) := by
  cases l with
  | nil => exact absurd rfl hne
  | cons c r =>
    have hc := h c (by simp)
    unfold digit at hc
    have hp := parse_eq (c :: r) h 0 (by simpa using pow_le9 hlen)
    have hlt := fold_lt (c :: r) h 0
    have h9 := pow_le9 hlen
    unfold Lib.atoiAll
    simp only [show ¬ (c.toNat = 43 ∨ c.toNat = 45) by omega, if_false, Lib.parseMag, List.cons_ne_nil, hp]
    rw [if_neg (by omega), if_neg (by omega), if_neg (by omega)]
theorem dec_digits (u : Nat) : ∀ c ∈ Lib.decDigits u, digit c := by
  induction u using Nat.strongRecOn with
  | _ u ih =>
    rw [Lib.decDigits]
    have hd : ∀ r, r < 10 → digit (UInt8.ofNat (48 + r)) := fun r hr => by
      unfold digit
      rw [UInt8.toNat_ofNat']
      omega
    by_cases h : u < 10
    · rw [dif_pos h]
      intro c hc
      simp only [List.mem_singleton] at hc
      rw [hc]
      exact hd u h
    · rw [dif_neg h]
      intro c hc
      rcases List.mem_append.1 hc with hc | hc
      · exact ih (u / 10) (by omega) c hc
      · simp only [List.mem_singleton] at hc
        rw [hc]
        exact hd _ (Nat.mod_lt _ (by decide))
theorem dec_ne (u : Nat) : Lib.decDigits u ≠ [] := by
  rw [Lib.decDigits]
  by_cases h : u < 10
  · rw [dif_pos h]; simp
  · rw [dif_neg h]; simp
theorem dec_le : ∀ (k u : Nat), u < 10 ^ (k + 1) → (Lib.decDigits u).length ≤ k + 1
  | 0, u, h => by rw [Lib.decDigits, dif_pos (by omega)]; simp
  | k + 1, u, h => by
    rw [Lib.decDigits]
    by_cases h10 : u < 10
    · rw [dif_pos h10]; simp
    · rw [dif_neg h10]
      have := dec_le k (u / 10) (by rw [Nat.pow_succ] at h; omega)
      simp
      omega
/-- whether l is the numeral of a number of 0 .. 999999999 -/
def good (l : List UInt8) : Prop := l ≠ [] ∧ l.length ≤ 9 ∧ (∀ c ∈ l, digit c) ∧ Lib.itoa (fold 0 l : Int) = l
def goodB (l : List UInt8) : Bool := !l.isEmpty && decide (l.length ≤ 9) && l.all (fun c => decide (48 ≤ c.toNat) && decide (c.toNat ≤ 57)) && decide (Lib.itoa (fold 0 l : Int) = l)
theorem goodB_iff (l : List UInt8) : goodB l = true ↔ good l := by
  unfold goodB good digit
  simp only [Bool.and_eq_true, List.all_eq_true, decide_eq_true_eq]
  cases l <;> simp [and_assoc]
def val (l : List UInt8) : Int := if goodB l then (fold 0 l : Int) else -1
theorem itoa_nat (u : Nat) : Lib.itoa (u : Int) = Lib.decDigits u := by
  unfold Lib.itoa
  rw [if_neg (by omega), show ((u : Int)).toNat = u by omega]
theorem good_itoa {l : List UInt8} {v : Int} (h0 : 0 ≤ v) (h1 : v ≤ 999999999) (h : Lib.itoa v = l) : good l ∧ v = (fold 0 l : Int) ∨ Lib.atoiAll l ≠ .ok v := by
  obtain ⟨u, rfl⟩ := Int.eq_ofNat_of_zero_le h0
  rw [show ((u : Nat) : Int) = (u : Int) from rfl] at *
  have e := itoa_nat u
  by_cases ha : Lib.atoiAll l = .ok (u : Int)
  · left
    have hd : l = Lib.decDigits u := by rw [← h]; exact e
    have hne : l ≠ [] := by rw [hd]; exact dec_ne u
    have hl : l.length ≤ 9 := by rw [hd]; exact dec_le 8 u (by omega)
    have hdg : ∀ c ∈ l, digit c := by rw [hd]; exact dec_digits u
    have := atoi_digits l hne hl hdg
    rw [ha] at this
    injection this with this
    exact ⟨⟨hne, hl, hdg, by rw [← this]; exact h⟩, this⟩
  · exact Or.inr ha
theorem good_atoi {l : List UInt8} (h : good l) : Lib.atoiAll l = .ok (fold 0 l : Int) ∧ (fold 0 l : Int) ≤ 999999999 := by
  refine ⟨atoi_digits l h.1 h.2.1 h.2.2.1, ?_⟩
  have := fold_lt l h.2.2.1 0
  have h9 := pow_le9 h.2.1
  omega
theorem val_ok {l : List UInt8} {v : Int} (ha : Lib.atoiAll l = .ok v) (h0 : 0 ≤ v) (h1 : v ≤ 999999999) (h : Lib.itoa v = l) : val l = v := by
  rcases good_itoa h0 h1 h with ⟨hg, e⟩ | hn
  · unfold val
    rw [if_pos ((goodB_iff l).2 hg), e]
  · exact absurd ha hn
theorem val_no {l : List UInt8} (h : ¬ good l) : val l = -1 := by unfold val; rw [if_neg (fun hh => h ((goodB_iff l).1 hh))]
theorem val_off {l : List UInt8} {v : Int} (ha : Lib.atoiAll l = .ok v) (h : v < 0 ∨ 999999999 < v ∨ Lib.itoa v ≠ l) : val l = -1 := by
  apply val_no
  intro hg
  obtain ⟨h1, h2⟩ := good_atoi hg
  rw [ha] at h1
  injection h1 with h1
  rcases h with h | h | h
  · omega
  · omega
  · exact h (by rw [h1]; exact hg.2.2.2)
theorem val_err {l : List UInt8} (ha : ∀ v, Lib.atoiAll l ≠ .ok v) : val l = -1 := by
  apply val_no
  intro hg
  exact ha _ (good_atoi hg).1
theorem val_yes {l : List UInt8} (h : good l) : val l = (fold 0 l : Int) := by unfold val; rw [if_pos ((goodB_iff l).2 h)]
theorem val_bounds (l : List UInt8) : -1 ≤ val l ∧ val l ≤ 999999999 := by
  by_cases h : good l
  · rw [val_yes h]
    have := (good_atoi h).2
    omega
  · rw [val_no h]; omega

theorem take_step (s : ByteArray) (k : Nat) (h : k < s.size) : s.data.toList.take (k + 1) = s.data.toList.take k ++ [s[k]] := by
  have hl : k < s.data.toList.length := by simpa using h
  rw [List.take_add_one, List.getElem?_eq_getElem hl]
  rfl
theorem len_eq (s : ByteArray) : s.data.toList.length = s.size := by simp
theorem take_lt (s : ByteArray) (k : Nat) (hk : k ≤ 9) (h : ∀ c ∈ s.data.toList.take k, digit c) : fold 0 (s.data.toList.take k) < 1000000000 := by
  have h1 := fold_lt _ h 0
  have h2 : (s.data.toList.take k).length ≤ 9 := by rw [List.length_take]; omega
  have h3 := pow_le9 h2
  omega
theorem not_good_long (l : List UInt8) (h : 9 < l.length) : ¬ good l := fun hg => by have := hg.2.1; omega
theorem not_good_byte (s : ByteArray) (k : Nat) (h : k < s.size) (hn : ¬ digit s[k]) : ¬ good s.data.toList := fun hg => by
  refine hn (hg.2.2.1 s[k] ?_)
  have hl : k < s.data.toList.length := by simpa using h
  exact List.getElem_mem (l := s.data.toList) hl
theorem nil_of_size {s : ByteArray} (h : s.size = 0) : s = ⟨#[]⟩ := ByteArray.ext (Array.eq_empty_of_size_eq_zero h)
theorem ret_val {l : List UInt8} {x : Int} (h : val l = x) : Ending.returned (.int .i64 x) = Ending.returned (.int .i64 (val l)) := by rw [h]

theorem spec_long (s : ByteArray) (w : World) (hs : s.size ≤ 1048576) (h9 : 9 < s.size) :
    Calls Tryd.prog 19 #[.string s] w fun e w' => e = .returned (.int .i64 (val s.data.toList)) ∧ w = w' := by
  have HV : Hid (val s.data.toList = -1) := val_no (not_good_long _ (by rw [len_eq]; omega))
  have hpos : 0 < s.size := by omega
  obtain ⟨b, hb⟩ : ∃ b, s[0].toNat = b := ⟨_, rfl⟩
  have hb256 : b < 256 := by have := s[0].toNat_lt; omega
  have hl9 : decide ((9 : Int) < (s.size : Int)) = true := by simp; omega
  go_enter Tryd.func19, Tryd.ntmps19
  go_wp2
  go_loop [4] (fun c => c = .int .i64 0) (fun _ => 0)
  case atStart => rfl
  case round =>
    subst hrel
    have hsp : b < 48 ∨ 57 < b ∨ (48 ≤ b ∧ b ≤ 57) := by omega
    rcases hsp with hd | hd | ⟨hd1, hd2⟩
    · go_wp2
      go_ret
      exact ⟨ret_val HV.out, rfl⟩
    · have hdd : decide ((b : Int) ≤ 57) = false := by simp; omega
      go_wp2
      go_ret
      exact ⟨ret_val HV.out, rfl⟩
    · have hdd : decide ((b : Int) ≤ 57) = true := by simp; omega
      go_wp2
      go_ret
      exact ⟨ret_val HV.out, rfl⟩

theorem spec_read (s : ByteArray) (w : World) (hs : s.size ≤ 1048576) :
    Calls Tryd.prog 19 #[.string s] w fun e w' => e = .returned (.int .i64 (val s.data.toList)) ∧ w = w' := by
  by_cases h9 : s.size ≤ 9
  · go_enter Tryd.func19, Tryd.ntmps19
    go_wp2
    go_loop [3, 4] (fun x c => ∃ k : Nat, k ≤ s.size ∧ c = .int .i64 k ∧ x = .int .i64 (fold 0 (s.data.toList.take k)) ∧ Hid (∀ c ∈ s.data.toList.take k, digit c)) (fun _ c => s.size - (intOf c).toNat)
    case atStart => exact ⟨0, Nat.zero_le _, rfl, by simp [fold], by unfold Hid; simp⟩
    case round =>
      obtain ⟨k, hk, rfl, rfl, hall⟩ := hrel
      obtain ⟨f, hf⟩ : ∃ f, fold 0 (s.data.toList.take k) = f := ⟨_, rfl⟩
      have hf9 : f < 1000000000 := by rw [← hf]; exact take_lt s k (by omega) hall.out
      have HF : Hid (fold 0 (s.data.toList.take k) = f) := hf
      rw [hf]
      clear hf
      by_cases hkz : k < s.size
      · obtain ⟨b, hb⟩ : ∃ b, s[k].toNat = b := ⟨_, rfl⟩
        have hb256 : b < 256 := by have := s[k].toNat_lt; omega
        by_cases hd : 48 ≤ b ∧ b ≤ 57
        · have HD : Hid (digit s[k]) := by unfold Hid digit; rw [hb]; exact hd
          have HN : Hid (fold 0 (s.data.toList.take (k + 1)) = f * 10 + (b - 48)) := by unfold Hid; rw [take_step s k hkz, fold_snoc, HF.out, hb]
          have HA : Hid (∀ c ∈ s.data.toList.take (k + 1), digit c) := by
            unfold Hid
            rw [take_step s k hkz]
            intro c hc
            rcases List.mem_append.1 hc with hc | hc
            · exact hall.out c hc
            · simp only [List.mem_singleton] at hc
              rw [hc]
              exact HD.out
          clear HF hall HD
          obtain ⟨hd1, hd2⟩ := hd
          go_wp2
          go_round
          case rel => exact ⟨k + 1, by omega, by go_num, by rw [HN.out]; go_num, HA⟩
          case measure => simp [intOf]; omega
        · have HV : Hid (val s.data.toList = -1) := val_no (not_good_byte s k hkz (by unfold digit; rw [hb]; exact hd))
          clear HF hall
          have hsp : b < 48 ∨ 57 < b := by omega
          clear hd
          rcases hsp with hd | hd
          · go_wp2
            go_ret
            exact ⟨ret_val HV.out, rfl⟩
          · have hdd : decide ((b : Int) ≤ 57) = false := by simp; omega
            go_wp2
            go_ret
            exact ⟨ret_val HV.out, rfl⟩
      · obtain rfl : k = s.size := by omega
        have hfull : s.data.toList.take s.size = s.data.toList := by rw [← len_eq]; exact List.take_length
        rw [hfull] at hall HF
        by_cases hz : s.size = 0
        · obtain rfl := nil_of_size hz
          have HV : Hid (val (⟨#[]⟩ : ByteArray).data.toList = -1) := val_no (fun hg => hg.1 rfl)
          go_wp2
          go_ret
          exact ⟨ret_val HV.out, rfl⟩
        · have hem : s.toList.isEmpty = false := by rw [Lib.toList_data]; cases h : s.data.toList with
            | nil => exact absurd (by rw [← len_eq, h]; rfl) hz
            | cons a b => rfl
          have hls : (s.toList = []) = False := by
            rw [eq_iff_iff, iff_false]
            intro h
            rw [h] at hem
            cases hem
          by_cases he : Lib.itoa (f : Int) = s.data.toList
          · have HV : Hid (val s.data.toList = (f : Int)) := by
              unfold Hid
              rw [val_yes ⟨fun h0 => hz (by rw [← len_eq, h0]; rfl), by rw [len_eq]; exact h9, hall.out, by rw [HF.out]; exact he⟩, HF.out]
            have hcmp : (⟨(Lib.itoa (f : Int)).toArray⟩ : ByteArray) = s := ByteArray.ext (Array.toList_inj.1 he)
            have hdec := dt.spec_dec (f : Int) w (by omega) (by omega)
            rw [hcmp] at hdec
            clear he hcmp HF hall hfull hz
            go_wp2_with (go_at_call 21; refine hdec.mono ?_; rintro e w' ⟨rfl, rfl⟩)
            go_ret
            exact ⟨ret_val HV.out, rfl⟩
          · have HV : Hid (val s.data.toList = -1) := val_no (fun hg => he (by have := hg.2.2.2; rw [HF.out] at this; exact this))
            obtain ⟨q, hq⟩ : ∃ q : ByteArray, (⟨(Lib.itoa (f : Int)).toArray⟩ : ByteArray) = q := ⟨_, rfl⟩
            have hne : (q.toList == s.toList) = false := by
              rw [Lib.toList_data, Lib.toList_data, ← hq]
              simpa using he
            have hdec := dt.spec_dec (f : Int) w (by omega) (by omega)
            rw [hq] at hdec
            clear he hq HF hall hfull hz
            go_wp2_with (go_at_call 21; refine hdec.mono ?_; rintro e w' ⟨rfl, rfl⟩)
            go_ret
            exact ⟨ret_val HV.out, rfl⟩
  · exact spec_long s w hs (by omega)

theorem gPow : Tryd.prog.globalNamed "internal/strconv.uint64pow10" = some 3 := by kernel_rfl

/-- Atoi where it succeeds -/
theorem atoi_ok (s : ByteArray) (v : Int) (w : World) (hs : s.size ≤ 1048576) (h : Lib.atoiAll s.data.toList = .ok v) (hg : 3 < w.heap.size) (htab : Lib.TabIs Tryd.prog w "internal/strconv.uint64pow10" .u64 Lib.pow10Tab) :
    Calls Tryd.prog 53 #[.string s] w fun e w' => e = .returned (.tuple #[.int .i64 v, .nilIface]) ∧ Below w.heap.size w w' ∧ Hid (Lib.TabIs Tryd.prog w' "internal/strconv.uint64pow10" .u64 Lib.pow10Tab) := by
  refine (shAtoiLaid.strconv_Atoi_ok s (by omega) v h w).mono ?_
  rintro e w' ⟨rfl, hw⟩
  have hb : Below w.heap.size w w' := by
    rcases hw with rfl | ⟨t, rfl⟩
    · exact Below.refl _ _
    · exact Lib.bytesWorld_below _ _ _
  exact ⟨rfl, hb, var?_below hb gPow hg htab⟩

/-- Atoi where it fails -/
theorem atoi_err (s : ByteArray) (w : World) (hs : s.size ≤ 1048576) (h : ∀ v, Lib.atoiAll s.data.toList ≠ .ok v) {t0 t1 : TypeId} {p0 p1 : Value} (h0 : w.var? Tryd.prog "strconv.ErrSyntax" = some #[.iface t0 p0]) (h1 : w.var? Tryd.prog "strconv.ErrRange" = some #[.iface t1 p1]) :
    Calls Tryd.prog 53 #[.string s] w fun e w' => (∃ x N, e = .returned (.tuple #[.int .i64 x, .iface 76 (.pointer (some ⟨N, 0, none⟩))])) ∧ Below w.heap.size w w' := by
  rcases ha : Lib.atoiAll s.data.toList with v | _ | _
  · exact absurd ha (h v)
  · have hx : Calls Tryd.prog 53 #[.string s] w fun e w' => ∃ N, e = .returned (.tuple #[.int .i64 0, .iface 76 (.pointer (some ⟨N, 0, none⟩))]) ∧ w.heap.size ≤ N ∧ w'.heap[N]? = some (.cells #[.string ⟨#[65, 116, 111, 105]⟩, .string s, .iface t0 p0] 87 (0, 0)) ∧ Below w.heap.size w w' :=
      Any.strconv_Atoi_syntax_var shAtoiLaid.laysC172 s (by omega) ha t0 p0 w h0
    refine hx.mono ?_
    rintro e w' ⟨N, rfl, _, _, hb⟩
    exact ⟨⟨_, N, rfl⟩, hb⟩
  · have hx : Calls Tryd.prog 53 #[.string s] w fun e w' => ∃ N, e = .returned (.tuple #[.int .i64 (Lib.atoiSat s.data.toList), .iface 76 (.pointer (some ⟨N, 0, none⟩))]) ∧ w.heap.size ≤ N ∧ w'.heap[N]? = some (.cells #[.string ⟨#[65, 116, 111, 105]⟩, .string s, .iface t1 p1] 87 (0, 0)) ∧ Below w.heap.size w w' :=
      Any.strconv_Atoi_range_var shAtoiLaid.laysC172 s (by omega) ha t1 p1 w h1
    refine hx.mono ?_
    rintro e w' ⟨N, rfl, _, _, hb⟩
    exact ⟨⟨_, N, rfl⟩, hb⟩

theorem impl_err (s : ByteArray) (w : World) (hv : val s.data.toList = -1)
    (hat : Calls Tryd.prog 53 #[.string s] w fun e w' => (∃ x N, e = .returned (.tuple #[.int .i64 x, .iface 76 (.pointer (some ⟨N, 0, none⟩))])) ∧ Below w.heap.size w w') :
    Calls Tryd.prog 18 #[.string s] w fun e w' => e = .returned (.int .i64 (val s.data.toList)) ∧ Below w.heap.size w w' := by
  have HV : Hid (val s.data.toList = -1) := hv
  clear hv
  go_enter Tryd.func18, Tryd.ntmps18
  go_wp2_with (go_at_call 53; refine hat.mono ?_; rintro e w' ⟨⟨x, N, rfl⟩, hb⟩)
  go_ret
  exact ⟨ret_val HV.out, hb⟩

theorem impl_off (s : ByteArray) (w : World) (v : Int) (hv : val s.data.toList = -1) (hoff : v < 0 ∨ 999999999 < v) {X : World → Prop}
    (hat : Calls Tryd.prog 53 #[.string s] w fun e w' => e = .returned (.tuple #[.int .i64 v, .nilIface]) ∧ Below w.heap.size w w' ∧ X w') :
    Calls Tryd.prog 18 #[.string s] w fun e w' => e = .returned (.int .i64 (val s.data.toList)) ∧ Below w.heap.size w w' := by
  have HV : Hid (val s.data.toList = -1) := hv
  clear hv
  rcases hoff with h | h
  · have hd : decide (v < 0) = true := by simpa using h
    go_enter Tryd.func18, Tryd.ntmps18
    go_wp2_with (go_at_call 53; refine hat.mono ?_; rintro e w' ⟨rfl, hb, hX⟩)
    go_ret
    exact ⟨ret_val HV.out, hb⟩
  · have hd : decide (v < 0) = false := by simp; omega
    have hd2 : decide (999999999 < v) = true := by simpa using h
    go_enter Tryd.func18, Tryd.ntmps18
    go_wp2_with (go_at_call 53; refine hat.mono ?_; rintro e w' ⟨rfl, hb, hX⟩)
    go_ret
    exact ⟨ret_val HV.out, hb⟩

theorem impl_in (s : ByteArray) (w : World) (v : Int) (h0 : 0 ≤ v) (h1 : v ≤ 999999999) (hv : val s.data.toList = if Lib.itoa v = s.data.toList then v else -1)
    (hat : Calls Tryd.prog 53 #[.string s] w fun e w' => e = .returned (.tuple #[.int .i64 v, .nilIface]) ∧ Below w.heap.size w w' ∧ Hid (Lib.TabIs Tryd.prog w' "internal/strconv.uint64pow10" .u64 Lib.pow10Tab)) :
    Calls Tryd.prog 18 #[.string s] w fun e w' => e = .returned (.int .i64 (val s.data.toList)) ∧ Below w.heap.size w w' := by
  have hd : decide (v < 0) = false := by simp; omega
  have hd2 : decide (999999999 < v) = false := by simp; omega
  by_cases he : Lib.itoa v = s.data.toList
  · rw [if_pos he] at hv
    have HV : Hid (val s.data.toList = v) := hv
    have hcmp : (⟨(Lib.itoa v).toArray⟩ : ByteArray) = s := ByteArray.ext (Array.toList_inj.1 he)
    have HC : Hid ((⟨(Lib.itoa v).toArray⟩ : ByteArray) = s) := hcmp
    clear hv he hcmp
    go_enter Tryd.func18, Tryd.ntmps18
    go_wp2_with (first | (go_at_call 53; refine hat.mono ?_; rintro e w1 ⟨rfl, hb, hX⟩) | (go_at_call 20; refine (di.impl_dec v w1 (by omega) (by omega) hX.out).mono ?_; rw [HC.out]; rintro e w2 ⟨rfl, hb2⟩))
    go_ret
    exact ⟨ret_val HV.out, hb.trans (hb2.mono hb.size)⟩
  · rw [if_neg he] at hv
    have HV : Hid (val s.data.toList = -1) := hv
    obtain ⟨q, hq⟩ : ∃ q : ByteArray, (⟨(Lib.itoa v).toArray⟩ : ByteArray) = q := ⟨_, rfl⟩
    have hne : (q.toList == s.toList) = false := by
      rw [Lib.toList_data, Lib.toList_data, ← hq]
      simpa using he
    have HC : Hid ((⟨(Lib.itoa v).toArray⟩ : ByteArray) = q) := hq
    clear hv he hq
    go_enter Tryd.func18, Tryd.ntmps18
    go_wp2_with (first | (go_at_call 53; refine hat.mono ?_; rintro e w1 ⟨rfl, hb, hX⟩) | (go_at_call 20; refine (di.impl_dec v w1 (by omega) (by omega) hX.out).mono ?_; rw [HC.out]; rintro e w2 ⟨rfl, hb2⟩))
    go_ret
    exact ⟨ret_val HV.out, hb.trans (hb2.mono hb.size)⟩

theorem impl_read (s : ByteArray) (w : World) (hs : s.size ≤ 1048576) (hg : 3 < w.heap.size) (htab : Lib.TabIs Tryd.prog w "internal/strconv.uint64pow10" .u64 Lib.pow10Tab)
    {t0 t1 : TypeId} {p0 p1 : Value} (h0 : w.var? Tryd.prog "strconv.ErrSyntax" = some #[.iface t0 p0]) (h1 : w.var? Tryd.prog "strconv.ErrRange" = some #[.iface t1 p1]) :
    Calls Tryd.prog 18 #[.string s] w fun e w' => e = .returned (.int .i64 (val s.data.toList)) ∧ Below w.heap.size w w' := by
  by_cases h : ∃ v, Lib.atoiAll s.data.toList = .ok v
  · obtain ⟨v, ha⟩ := h
    have hat := atoi_ok s v w hs ha hg htab
    by_cases hin : 0 ≤ v ∧ v ≤ 999999999
    · refine impl_in s w v hin.1 hin.2 ?_ hat
      by_cases he : Lib.itoa v = s.data.toList
      · rw [if_pos he, val_ok ha hin.1 hin.2 he]
      · rw [if_neg he, val_off ha (Or.inr (Or.inr he))]
    · exact impl_off s w v (val_off ha (by omega)) (by omega) hat
  · have hn : ∀ v, Lib.atoiAll s.data.toList ≠ .ok v := fun v e => h ⟨v, e⟩
    exact impl_err s w (val_err hn) (atoi_err s w hs hn h0 h1)

/-- what the library's variables hold -/
def Lib0 (w : World) : Prop := Lib.TabIs Tryd.prog w "internal/strconv.uint64pow10" .u64 Lib.pow10Tab ∧ (∃ t p, w.var? Tryd.prog "strconv.ErrSyntax" = some #[.iface t p]) ∧ ∃ t p, w.var? Tryd.prog "strconv.ErrRange" = some #[.iface t p]
theorem pow_lt {w : World} (h : Lib.TabIs Tryd.prog w "internal/strconv.uint64pow10" .u64 Lib.pow10Tab) : 3 < w.heap.size := by
  have hc := Lib.TabIs.cell h gPow 0 (by rw [Lib.pow10Tab_length]; decide)
  exact block_lt_of_cell hc
theorem impl_read' (s : ByteArray) (w : World) (hs : s.size ≤ 1048576) (h : Lib0 w) :
    Calls Tryd.prog 18 #[.string s] w fun e w' => e = .returned (.int .i64 (val s.data.toList)) ∧ Below w.heap.size w w' := by
  obtain ⟨htab, ⟨t0, p0, h0⟩, ⟨t1, p1, h1⟩⟩ := h
  exact impl_read s w hs (pow_lt htab) htab h0 h1
end Go.Proofs.YtkddnennodonhaaDoor.rd
