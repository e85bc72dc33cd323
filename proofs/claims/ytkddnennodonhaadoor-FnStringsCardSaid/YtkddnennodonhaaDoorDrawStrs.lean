/- The specification's draws for the law of texts: some values within bounds; nothing that was there is turned. -/
import Derived.Test.YtkddnennodonhaaDoorDrawBytes
import Derived.Test.YtkddnennodonhaaDoorStrsPlain
namespace Go.Proofs.YtkddnennodonhaaDoor.ds
open Go.ChangeShapes Go.WideShapes Go.ChangeAt Go.RowKit Go.Proofs.YtkddnennodonhaaDoor.dw

theorem draw_PutLong (a : Option Addr) (len cap : Nat) (w : World) (hlen : len ≤ 1048576) (hc : dw.Code w w.heap.size a len) :
    Calls Tryd.prog 23 #[.slice a len cap] w fun e w' => (∃ s : ByteArray, s.size ≤ 20 ∧ e = .returned (.string s)) ∧ Below w.heap.size w w' := by
  have h1 := draw_new a len cap w hlen hc
  clear hc
  go_enter Tryd.func23, Tryd.ntmps23
  go_wp2_with (first | (go_at_call 43; refine h1.mono ?_; rintro e w1 ⟨rfl, hc1, hb1⟩) | (go_at_call 48; refine (draw_below w.heap.size a len cap 20 w1 (by omega) hc1).mono ?_; rintro e w2 ⟨⟨m, hm, rfl⟩, hc2, hb2⟩) | (go_at_call 47; refine (draw_bytes w.heap.size a len cap m w2 (by omega) hc2).mono ?_; rintro e w3 ⟨⟨s, hs, rfl⟩, hc3, hb3⟩))
  go_ret
  exact ⟨⟨s, by omega, rfl⟩, hb1.trans ((hb2.trans hb3).below (Nat.le_refl _) hb1.size)⟩

theorem draw_CheckSum (a : Option Addr) (len cap : Nat) (w : World) (hlen : len ≤ 1048576) (hc : dw.Code w w.heap.size a len) :
    Calls Tryd.prog 34 #[.slice a len cap] w fun e w' => (∃ s : ByteArray, s.size ≤ 30 ∧ e = .returned (.string s)) ∧ Below w.heap.size w w' := by
  have h1 := draw_new a len cap w hlen hc
  clear hc
  go_enter Tryd.func34, Tryd.ntmps34
  go_wp2_with (first | (go_at_call 43; refine h1.mono ?_; rintro e w1 ⟨rfl, hc1, hb1⟩) | (go_at_call 48; refine (draw_below w.heap.size a len cap 30 w1 (by omega) hc1).mono ?_; rintro e w2 ⟨⟨m, hm, rfl⟩, hc2, hb2⟩) | (go_at_call 47; refine (draw_bytes w.heap.size a len cap m w2 (by omega) hc2).mono ?_; rintro e w3 ⟨⟨s, hs, rfl⟩, hc3, hb3⟩))
  go_ret
  exact ⟨⟨s, by omega, rfl⟩, hb1.trans ((hb2.trans hb3).below (Nat.le_refl _) hb1.size)⟩

theorem draw_PutShort (a : Option Addr) (len cap : Nat) (w : World) (hlen : len ≤ 1048576) (hc : dw.Code w w.heap.size a len) :
    Calls Tryd.prog 22 #[.slice a len cap] w fun e w' => (∃ s : ByteArray, s.size ≤ 256 ∧ e = .returned (.string s)) ∧ Below w.heap.size w w' := by
  have h1 := draw_new a len cap w hlen hc
  clear hc
  go_enter Tryd.func22, Tryd.ntmps22
  go_wp2_with (first | (go_at_call 43; refine h1.mono ?_; rintro e w1 ⟨rfl, hc1, hb1⟩) | (go_at_call 49; refine (draw_once w.heap.size a len cap 12 w1 (by omega) hc1).mono ?_; rintro e w2 ⟨⟨b, rfl⟩, hc2, hb2⟩))
  · have h2 := draw_below w.heap.size a len cap 2 w2 (by omega) hc2
    have k1 : True := trivial
    go_wp2_with (go_at_call 48; have _t := k1; refine h2.mono ?_; rintro e w3 ⟨⟨m, hm, rfl⟩, hc3, hb3⟩; clear k1)
    have h3 := draw_bytes w.heap.size a len cap (255 + m) w3 (by omega) hc3
    have e3 : (Value.int .i64 ((255 + m : Nat) : Int)) = Value.int .i64 (255 + (m : Int)) := by simp
    rw [e3] at h3
    clear e3
    go_wp2_with (go_at_call 47; refine h3.mono ?_; rintro e w4 ⟨⟨s, hs, rfl⟩, hc4, hb4⟩)
    go_ret
    exact ⟨⟨s, by omega, rfl⟩, hb1.trans (((hb2.trans hb3).trans hb4).below (Nat.le_refl _) hb1.size)⟩
  · have h2 := draw_below w.heap.size a len cap 9 w2 (by omega) hc2
    go_wp2_with (first | (go_at_call 48; refine h2.mono ?_; rintro e w3 ⟨⟨m, hm, rfl⟩, hc3, hb3⟩) | (go_at_call 47; refine (draw_bytes w.heap.size a len cap m w3 (by omega) hc3).mono ?_; rintro e w4 ⟨⟨s, hs, rfl⟩, hc4, hb4⟩))
    go_ret
    exact ⟨⟨s, by omega, rfl⟩, hb1.trans (((hb2.trans hb3).trans hb4).below (Nat.le_refl _) hb1.size)⟩

def places : List Int := [1, 1, 1, 0, -1, 2]
theorem places_in : ∀ z ∈ places, -1 ≤ z ∧ z ≤ 2 := by decide

theorem draw_GetShort (a : Option Addr) (len cap : Nat) (w : World) (hlen : len ≤ 1048576) (hc : dw.Code w w.heap.size a len) :
    Calls Tryd.prog 26 #[.slice a len cap] w fun e w' => (∃ (s : ByteArray) (i : Int), s.size ≤ 20 ∧ -1 ≤ i ∧ i ≤ 2 ∧ e = .returned (.tuple #[.string s, .int .i64 i])) ∧ Below w.heap.size w w' := by
  have h1 := draw_new a len cap w hlen hc
  clear hc
  go_enter Tryd.func26, Tryd.ntmps26
  have k1 : True := trivial
  go_wp2_with (first | (go_at_call 43; refine h1.mono ?_; rintro e w1 ⟨rfl, hc1, hb1⟩) | (go_at_call 48; have _t := k1; refine (draw_below w.heap.size a len cap 9 w1 (by omega) hc1).mono ?_; rintro e w2 ⟨⟨m, hm, rfl⟩, hc2, hb2⟩; clear k1) | (go_at_call 47; refine (draw_bytes w.heap.size a len cap m w2 (by omega) hc2).mono ?_; rintro e w3 ⟨⟨b, hb, rfl⟩, hc3, hb3⟩))
  obtain ⟨t, ht⟩ : ∃ t, ps.out b = t := ⟨_, rfl⟩
  have hts : t.size ≤ 13 := by rw [← ht, (sp.short_out (a := b) (by omega)).2.2]; omega
  have hput := ps.spec_putShort b w3 (by omega)
  rw [ht] at hput
  clear ht h1
  go_wp2_with (first | (go_at_call 32; refine hput.mono ?_; rintro e w4 ⟨rfl, hb4⟩; have hc4 := hc3.below hb4) | (go_at_call 49; refine (draw_once w.heap.size a len cap 3 w4 (by omega) hc4).mono ?_; rintro e w5 ⟨⟨c, rfl⟩, hc5, hb5⟩))
  all_goals have hon := ((hb2.trans hb3).trans (On.of_below (p := w.heap.size) hb4)).trans hb5
  all_goals have hsz : (({ data := #[120] } : ByteArray) ++ t ++ { data := #[121] }).size ≤ 20 := by rw [ByteArray.size_append, ByteArray.size_append]; show 1 + t.size + 1 ≤ 20; omega
  · have h6 := draw_below w.heap.size a len cap (t.size + 3) w5 (by omega) hc5
    have e6 : ((t.size + 3 : Nat) : Int) = 1 + (t.size : Int) + 1 + 1 := by omega
    rw [e6] at h6
    refine h6.mono ?_
    rintro e w6 ⟨⟨x, hx, rfl⟩, hc6, hb6⟩
    have HSZ : Hid ((({ data := #[120] } : ByteArray) ++ t ++ { data := #[121] }).size ≤ 20) := hsz
    have hx2 : (x : Int) ≤ 1 + (t.size : Int) + 1 := by omega
    clear hsz
    go_wp2
    go_ret2
    exact ⟨⟨_, 1, by rw [ByteArray.size_extract]; have := HSZ.out; omega, by omega, by omega, rfl⟩, hb1.trans ((hon.trans hb6).below (Nat.le_refl _) hb1.size)⟩
  · have hp5 := hc5.lt
    have h6 := draw_pick_int w.heap.size a len cap w5.heap.size 6 places _ (by omega) (by omega) (at_list w5 places 3) (hc5.alloc _)
    refine h6.mono ?_
    rintro e w6 ⟨⟨z, hz, rfl⟩, hc6, hb6⟩
    have hz1 := places_in z hz
    go_wp2
    go_ret2
    exact ⟨⟨_, z, hsz, hz1.1, hz1.2, rfl⟩, hb1.trans (((hon.alloc _).trans hb6).below (Nat.le_refl _) hb1.size)⟩

theorem draw_GetLong (a : Option Addr) (len cap : Nat) (w : World) (hlen : len ≤ 1048576) (hc : dw.Code w w.heap.size a len) :
    Calls Tryd.prog 29 #[.slice a len cap] w fun e w' => (∃ (s : ByteArray) (i : Int), s.size ≤ 20 ∧ -1 ≤ i ∧ i ≤ 2 ∧ e = .returned (.tuple #[.string s, .int .i64 i])) ∧ Below w.heap.size w w' := by
  have h1 := draw_new a len cap w hlen hc
  clear hc
  go_enter Tryd.func29, Tryd.ntmps29
  have k1 : True := trivial
  go_wp2_with (first | (go_at_call 43; refine h1.mono ?_; rintro e w1 ⟨rfl, hc1, hb1⟩) | (go_at_call 48; have _t := k1; refine (draw_below w.heap.size a len cap 9 w1 (by omega) hc1).mono ?_; rintro e w2 ⟨⟨m, hm, rfl⟩, hc2, hb2⟩; clear k1) | (go_at_call 47; refine (draw_bytes w.heap.size a len cap m w2 (by omega) hc2).mono ?_; rintro e w3 ⟨⟨b, hb, rfl⟩, hc3, hb3⟩))
  obtain ⟨t, ht⟩ : ∃ t, pl.out b = t := ⟨_, rfl⟩
  have hts : t.size ≤ 13 := by rw [← ht, (sp.long_out (a := b) (by omega)).2.2]; omega
  have hput := pl.spec_putLong b w3 (by omega)
  rw [ht] at hput
  clear ht h1
  go_wp2_with (first | (go_at_call 33; refine hput.mono ?_; rintro e w4 ⟨rfl, hb4⟩; have hc4 := hc3.below hb4) | (go_at_call 49; refine (draw_once w.heap.size a len cap 3 w4 (by omega) hc4).mono ?_; rintro e w5 ⟨⟨c, rfl⟩, hc5, hb5⟩))
  all_goals have hon := ((hb2.trans hb3).trans (On.of_below (p := w.heap.size) hb4)).trans hb5
  all_goals have hsz : (({ data := #[120] } : ByteArray) ++ t ++ { data := #[121] }).size ≤ 20 := by rw [ByteArray.size_append, ByteArray.size_append]; show 1 + t.size + 1 ≤ 20; omega
  · have h6 := draw_below w.heap.size a len cap (t.size + 3) w5 (by omega) hc5
    have e6 : ((t.size + 3 : Nat) : Int) = 1 + (t.size : Int) + 1 + 1 := by omega
    rw [e6] at h6
    refine h6.mono ?_
    rintro e w6 ⟨⟨x, hx, rfl⟩, hc6, hb6⟩
    have HSZ : Hid ((({ data := #[120] } : ByteArray) ++ t ++ { data := #[121] }).size ≤ 20) := hsz
    have hx2 : (x : Int) ≤ 1 + (t.size : Int) + 1 := by omega
    clear hsz
    go_wp2
    go_ret2
    exact ⟨⟨_, 1, by rw [ByteArray.size_extract]; have := HSZ.out; omega, by omega, by omega, rfl⟩, hb1.trans ((hon.trans hb6).below (Nat.le_refl _) hb1.size)⟩
  · have hp5 := hc5.lt
    have h6 := draw_pick_int w.heap.size a len cap w5.heap.size 6 places _ (by omega) (by omega) (at_list w5 places 3) (hc5.alloc _)
    refine h6.mono ?_
    rintro e w6 ⟨⟨z, hz, rfl⟩, hc6, hb6⟩
    have hz1 := places_in z hz
    go_wp2
    go_ret2
    exact ⟨⟨_, z, hsz, hz1.1, hz1.2, rfl⟩, hb1.trans (((hon.alloc _).trans hb6).below (Nat.le_refl _) hb1.size)⟩

end Go.Proofs.YtkddnennodonhaaDoor.ds
