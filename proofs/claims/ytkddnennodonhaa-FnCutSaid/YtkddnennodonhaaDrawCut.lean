/- The specification's draw of a body and a size: some values within bounds; nothing that was there is turned. -/
import Derived.Test.YtkddnennodonhaaDrawBytes
namespace Go.Proofs.Ytkddnennodonhaa.dc
open Go.ChangeShapes Go.WideShapes Go.ChangeAt Go.RowKit Go.Proofs.Ytkddnennodonhaa.dw

def sizes : List Int := [1, 2, 7, 4000, 4001, 0, -1, 5]
theorem sizes_in : ∀ z ∈ sizes, -1 ≤ z ∧ z ≤ 4001 := by decide
theorem draw_Cut (a : Option Addr) (len cap : Nat) (w : World) (hlen : len ≤ 1048576) (hc : dw.Code w w.heap.size a len) :
    Calls Try.prog 30 #[.slice a len cap] w fun e w' => (∃ (s : ByteArray) (z : Int), s.size ≤ 30 ∧ -1 ≤ z ∧ z ≤ 4001 ∧ e = .returned (.tuple #[.string s, .int .i64 z])) ∧ Below w.heap.size w w' := by
  have h1 := draw_new a len cap w hlen hc
  clear hc
  go_enter Try.func30, Try.ntmps30
  go_wp2_with (first | (go_at_call 58; refine h1.mono ?_; rintro e w1 ⟨rfl, hc1, hb1⟩) | (go_at_call 67; refine (draw_below w.heap.size a len cap 30 w1 (by omega) hc1).mono ?_; rintro e w2 ⟨⟨m, hm, rfl⟩, hc2, hb2⟩) | (go_at_call 61; refine (draw_bytes w.heap.size a len cap m w2 (by omega) hc2).mono ?_; rintro e w3 ⟨⟨s, hs, rfl⟩, hc3, hb3⟩))
  have hp3 := hc3.lt
  have h6 := draw_pick_int w.heap.size a len cap w3.heap.size 8 sizes _ (by omega) (by omega) (at_list w3 sizes 3) (hc3.alloc _)
  refine h6.mono ?_
  rintro e w4 ⟨⟨z, hz, rfl⟩, hc4, hb4⟩
  have hz1 := sizes_in z hz
  go_wp2
  go_ret2
  exact ⟨⟨s, z, by omega, hz1.1, hz1.2, rfl⟩, hb1.trans ((((hb2.trans hb3).alloc _).trans hb4).below (Nat.le_refl _) hb1.size)⟩
end Go.Proofs.Ytkddnennodonhaa.dc
