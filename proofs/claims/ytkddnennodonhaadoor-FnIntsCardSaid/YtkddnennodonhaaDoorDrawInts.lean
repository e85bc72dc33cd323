/- The specification's draws for the law of numbers: some values within bounds; nothing that was there is turned. -/
import Derived.Test.YtkddnennodonhaaDoorDrawBytes
import Derived.Test.YtkddnennodonhaaDoorDrawMore
import Derived.Test.YtkddnennodonhaaDoorDecTextWalks
namespace Go.Proofs.YtkddnennodonhaaDoor.dw
open Go.ChangeShapes Go.WideShapes Go.ChangeAt Go.RowKit

theorem Code.top {w w' : World} {a : Option Addr} {len : Nat} (h : Code w w.heap.size a len) (hb : Below w.heap.size w w') : Code w' w'.heap.size a len := (h.below hb (Nat.le_refl _)).mono hb.size
theorem sizes_in : ∀ z ∈ sizes, -1 ≤ z ∧ z ≤ 8 := by decide

theorem draw_PutInt (a : Option Addr) (len cap : Nat) (w : World) (hlen : len ≤ 1048576) (hc : Code w w.heap.size a len) :
    Calls Tryd.prog 10 #[.slice a len cap] w fun e w' => (∃ n z : Int, -9223372036854775808 ≤ n ∧ n ≤ 9223372036854775807 ∧ -1 ≤ z ∧ z ≤ 8 ∧ e = .returned (.tuple #[.int .i64 n, .int .i64 z])) ∧ Below w.heap.size w w' := by
  have h1 := draw_new a len cap w hlen hc
  clear hc
  go_enter Tryd.func10, Tryd.ntmps10
  go_wp2_with (first | (go_at_call 43; refine h1.mono ?_; rintro e w1 ⟨rfl, hc1, hb1⟩) | (go_at_call 44; refine (draw_num w.heap.size a len cap w1 hc1).mono ?_; rintro e w2 ⟨⟨n, hn1, hn2, rfl⟩, hc2, hb2⟩) | (go_at_call 45; refine (draw_size w.heap.size a len cap w2 hc2).mono ?_; rintro e w3 ⟨⟨z, hz, rfl⟩, hc3, hb3⟩))
  go_ret2
  exact ⟨⟨n, z, hn1, hn2, (sizes_in z hz).1, (sizes_in z hz).2, rfl⟩, hb1.trans ((hb2.trans hb3).below (Nat.le_refl _) hb1.size)⟩

theorem draw_DecText (a : Option Addr) (len cap : Nat) (w : World) (hlen : len ≤ 1048576) (hc : Code w w.heap.size a len) :
    Calls Tryd.prog 16 #[.slice a len cap] w fun e w' => (∃ n : Int, -9223372036854775808 ≤ n ∧ n ≤ 9223372036854775807 ∧ e = .returned (.int .i64 n)) ∧ Below w.heap.size w w' := by
  have h1 := draw_new a len cap w hlen hc
  clear hc
  go_enter Tryd.func16, Tryd.ntmps16
  go_wp2_with (first | (go_at_call 43; refine h1.mono ?_; rintro e w1 ⟨rfl, hc1, hb1⟩) | (go_at_call 44; refine (draw_num w.heap.size a len cap w1 hc1).mono ?_; rintro e w2 ⟨⟨n, hn1, hn2, rfl⟩, hc2, hb2⟩))
  go_ret
  exact ⟨⟨n, hn1, hn2, rfl⟩, hb1.trans (hb2.below (Nat.le_refl _) hb1.size)⟩

def decs : List ByteArray := [⟨#[]⟩, ⟨#[45, 49]⟩, ⟨#[48, 48]⟩, ⟨#[48, 49]⟩, ⟨#[49, 120]⟩, ⟨#[57, 57, 57, 57, 57, 57, 57, 57, 57]⟩, ⟨#[49, 48, 48, 48, 48, 48, 48, 48, 48, 48]⟩]
theorem decs_in : ∀ z ∈ decs, z.size ≤ 20 := by decide

theorem itoa_size (z : Nat) (hz : z < 100000) : (⟨(Lib.itoa (z : Int)).toArray⟩ : ByteArray).size ≤ 20 := by
  have e : Lib.itoa (z : Int) = Lib.decDigits z := by
    unfold Lib.itoa
    rw [if_neg (by omega), show ((z : Int)).toNat = z by omega]
  have := dt.digits_le 19 z (by omega)
  rw [e]
  simpa [ByteArray.size] using this

set_option maxRecDepth 100000 in
theorem draw_ReadDec (a : Option Addr) (len cap : Nat) (w : World) (hlen : len ≤ 1048576) (hc : Code w w.heap.size a len) :
    Calls Tryd.prog 15 #[.slice a len cap] w fun e w' => (∃ s : ByteArray, s.size ≤ 20 ∧ e = .returned (.string s)) ∧ Below w.heap.size w w' := by
  have h1 := draw_new a len cap w hlen hc
  clear hc
  go_enter Tryd.func15, Tryd.ntmps15
  go_wp2_with (first | (go_at_call 43; refine h1.mono ?_; rintro e w1 ⟨rfl, hc1, hb1⟩) | (go_at_call 49; refine (draw_once w.heap.size a len cap 3 w1 (by omega) hc1).mono ?_; rintro e w2 ⟨⟨b, rfl⟩, hc2, hb2⟩))
  · have hp2 := hc2.lt
    have h2 := draw_pick w.heap.size a len cap w2.heap.size 7 decs _ (by omega) (by omega) (at_texts w2 decs 9) (hc2.alloc _)
    go_wp2_with (go_at_call 52; refine h2.mono ?_; rintro e w3 ⟨⟨z, hz, rfl⟩, hc3, hb3⟩)
    go_ret
    exact ⟨⟨z, decs_in z hz, rfl⟩, hb1.trans (((hb2.alloc _).trans hb3).below (Nat.le_refl _) hb1.size)⟩
  · have h2 := draw_below w.heap.size a len cap 100000 w2 (by omega) hc2
    go_wp2_with (first | (go_at_call 48; refine h2.mono ?_; rintro e w3 ⟨⟨z, hz, rfl⟩, hc3, hb3⟩) | (go_at_call 21; refine (dt.spec_dec (z : Int) w3 (by omega) (by omega)).mono ?_; rintro e w4 ⟨rfl, rfl⟩))
    go_ret
    exact ⟨⟨_, itoa_size z hz, rfl⟩, hb1.trans ((hb2.trans hb3).below (Nat.le_refl _) hb1.size)⟩

set_option maxRecDepth 100000 in
theorem draw_GetInt (a : Option Addr) (len cap : Nat) (w : World) (hlen : len ≤ 1048576) (hc : Code w w.heap.size a len) :
    Calls Tryd.prog 12 #[.slice a len cap] w fun e w' => (∃ (s : ByteArray) (i z : Int), s.size ≤ 20 ∧ -1 ≤ i ∧ i ≤ 9223372036854775807 ∧ -1 ≤ z ∧ z ≤ 8 ∧ e = .returned (.tuple #[.string s, .int .i64 i, .int .i64 z])) ∧ Below w.heap.size w w' := by
  have h1 := draw_new a len cap w hlen hc
  clear hc
  go_enter Tryd.func12, Tryd.ntmps12
  have k1 : True := trivial
  go_wp2_with (first | (go_at_call 43; refine h1.mono ?_; rintro e w1 ⟨rfl, hc1, hb1⟩) | (go_at_call 48; have _t := k1; refine (draw_below w.heap.size a len cap 12 w1 (by omega) hc1).mono ?_; rintro e w2 ⟨⟨m, hm, rfl⟩, hc2, hb2⟩; clear k1) | (go_at_call 47; refine (draw_bytes w.heap.size a len cap m w2 (by omega) hc2).mono ?_; rintro e w3 ⟨⟨s, hs, rfl⟩, hc3, hb3⟩))
  have h4 := draw_below w.heap.size a len cap (m + 2) w3 (by omega) hc3
  have h41 : (Value.int .i64 ((m + 2 : Nat) : Int)) = Value.int .i64 ((m : Int) + 2) := by simp
  rw [h41] at h4
  clear h1 h41
  go_wp2_with (first | (go_at_call 48; refine h4.mono ?_; rintro e w4 ⟨⟨j, hj, rfl⟩, hc4, hb4⟩) | (go_at_call 49; refine (draw_once w.heap.size a len cap 20 w4 (by omega) hc4).mono ?_; rintro e w5 ⟨⟨b, rfl⟩, hc5, hb5⟩) | (go_at_call 45; refine (draw_size w.heap.size a len cap w5 hc5).mono ?_; rintro e w6 ⟨⟨z, hz, rfl⟩, hc6, hb6⟩))
  all_goals go_ret3
  · exact ⟨⟨s, _, z, by omega, by omega, by omega, (sizes_in z hz).1, (sizes_in z hz).2, rfl⟩, hb1.trans (((((hb2.trans hb3).trans hb4).trans hb5).trans hb6).below (Nat.le_refl _) hb1.size)⟩
  · exact ⟨⟨s, _, z, by omega, by omega, by omega, (sizes_in z hz).1, (sizes_in z hz).2, rfl⟩, hb1.trans (((((hb2.trans hb3).trans hb4).trans hb5).trans hb6).below (Nat.le_refl _) hb1.size)⟩
end Go.Proofs.YtkddnennodonhaaDoor.dw
