/- The specification's draws of numbers and sizes: some value within bounds. -/
import Derived.Test.YtkddnennodonhaaDoorDrawBase
namespace Go.Proofs.YtkddnennodonhaaDoor.dw
open Go.ChangeShapes Go.WideShapes Go.ChangeAt Go.RowKit

def sizes : List Int := [1, 2, 4, 8, 1, 2, 4, 8, 3, 0, -1]
theorem draw_size (p : Nat) (a : Option Addr) (len cap : Nat) (w : World) (hc : Cur w p a len cap) :
    Calls Tryd.prog 45 #[.pointer (some ⟨p, 0, none⟩)] w fun e w' => (∃ z ∈ sizes, e = .returned (.int .i64 z)) ∧ Cur w' p a len cap ∧ On p w w' := by
  have hp := hc.lt
  have h1 := draw_pick_int p a len cap w.heap.size 11 sizes _ (by omega) (by omega) (at_list w sizes 3) (hc.alloc _)
  clear hc
  go_enter Tryd.func45, Tryd.ntmps45
  go_wp2_with (go_at_call 56; refine h1.mono ?_; rintro e w1 ⟨⟨z, hz, rfl⟩, hc1, hb1⟩)
  go_ret
  exact ⟨⟨z, hz, rfl⟩, hc1, ((On.refl p w).alloc _).trans hb1⟩

def words : List Int := [0, 1, 2, 31, 32, 255, 256, 2147483647, 2147483648, 4294967295, 4294967294]
theorem draw_word (p : Nat) (a : Option Addr) (len cap : Nat) (w : World) (hc : Cur w p a len cap) :
    Calls Tryd.prog 62 #[.pointer (some ⟨p, 0, none⟩)] w fun e w' => (∃ z : Nat, z < 4294967296 ∧ e = .returned (.int .u32 z)) ∧ Cur w' p a len cap ∧ On p w w' := by
  have hp := hc.lt
  have hbel := fun (n : Nat) (hn : 1 ≤ n ∧ n ≤ 4294967296) (W : World) (h : Cur W p a len cap) => draw_below p a len cap n W hn h
  have h1 := hbel 4 (by omega) w hc
  clear hc
  go_enter Tryd.func62, Tryd.ntmps62
  have k1 : True := trivial
  go_wp2_with (go_at_call 48; have _t := k1; refine h1.mono ?_; rintro e w1 ⟨⟨x, hx, rfl⟩, hc1, hb1⟩; clear k1)
  · have hp1 := hc1.lt
    have h2 := draw_pick_int p a len cap w1.heap.size 11 words _ (by omega) (by omega) (at_list w1 words 3) (hc1.alloc _)
    go_wp2_with (go_at_call 56; refine h2.mono ?_; rintro e w2 ⟨⟨z, hz, rfl⟩, hc2, hb2⟩)
    go_ret
    exact ⟨⟨(z % 4294967296).toNat, by omega, by rw [show (((z % 4294967296).toNat : Nat) : Int) = z % 4294967296 by omega]; rfl⟩, hc2, (hb1.alloc _).trans hb2⟩
  · have h2 := hbel 300 (by omega) w1 hc1
    go_wp2_with (go_at_call 48; refine h2.mono ?_; rintro e w2 ⟨⟨z, hz, rfl⟩, hc2, hb2⟩)
    go_ret
    exact ⟨⟨z, by omega, rfl⟩, hc2, hb1.trans hb2⟩
  · have h2 := hbel 65536 (by omega) w1 hc1
    have k2 : True := trivial
    go_wp2_with (go_at_call 48; have _t := k2; refine h2.mono ?_; rintro e w2 ⟨⟨y, hy, rfl⟩, hc2, hb2⟩; clear k2)
    have h3 := hbel 65536 (by omega) w2 hc2
    go_wp2_with (go_at_call 48; refine h3.mono ?_; rintro e w3 ⟨⟨z, hz, rfl⟩, hc3, hb3⟩)
    go_ret
    exact ⟨⟨y * 65536 + z, by omega, rfl⟩, hc3, (hb1.trans hb2).trans hb3⟩

def nums : List Int := [0, 1, -1, 255, 256, 65535, 65536, 4294967295, 4294967296, 9223372036854775807, -9223372036854775808, 999999999, 1000000000]
theorem nums_in : ∀ z ∈ nums, -9223372036854775808 ≤ z ∧ z ≤ 9223372036854775807 := by decide
theorem draw_num (p : Nat) (a : Option Addr) (len cap : Nat) (w : World) (hc : Cur w p a len cap) :
    Calls Tryd.prog 44 #[.pointer (some ⟨p, 0, none⟩)] w fun e w' => (∃ z : Int, -9223372036854775808 ≤ z ∧ z ≤ 9223372036854775807 ∧ e = .returned (.int .i64 z)) ∧ Cur w' p a len cap ∧ On p w w' := by
  have hp := hc.lt
  have hbel := fun (n : Nat) (hn : 1 ≤ n ∧ n ≤ 4294967296) (W : World) (h : Cur W p a len cap) => draw_below p a len cap n W hn h
  have h1 := hbel 4 (by omega) w hc
  clear hc
  go_enter Tryd.func44, Tryd.ntmps44
  have k1 : True := trivial
  go_wp2_with (go_at_call 48; have _t := k1; refine h1.mono ?_; rintro e w1 ⟨⟨x, hx, rfl⟩, hc1, hb1⟩; clear k1)
  · have hp1 := hc1.lt
    have h2 := draw_pick_int p a len cap w1.heap.size 13 nums _ (by omega) (by omega) (at_list w1 nums 3) (hc1.alloc _)
    go_wp2_with (go_at_call 56; refine h2.mono ?_; rintro e w2 ⟨⟨z, hz, rfl⟩, hc2, hb2⟩)
    go_ret
    exact ⟨⟨z, (nums_in z hz).1, (nums_in z hz).2, rfl⟩, hc2, (hb1.alloc _).trans hb2⟩
  · have h2 := draw_word p a len cap w1 hc1
    go_wp2_with (go_at_call 62; refine h2.mono ?_; rintro e w2 ⟨⟨z, hz, rfl⟩, hc2, hb2⟩)
    go_ret
    exact ⟨⟨z, by omega, by omega, rfl⟩, hc2, hb1.trans hb2⟩
  · have h2 := hbel 1000 (by omega) w1 hc1
    go_wp2_with (go_at_call 48; refine h2.mono ?_; rintro e w2 ⟨⟨z, hz, rfl⟩, hc2, hb2⟩)
    go_ret
    exact ⟨⟨z, by omega, by omega, rfl⟩, hc2, hb1.trans hb2⟩

end Go.Proofs.YtkddnennodonhaaDoor.dw
