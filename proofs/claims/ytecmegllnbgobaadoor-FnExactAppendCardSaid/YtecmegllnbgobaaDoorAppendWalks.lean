/- Append, of the specification and of the program: a log with a record behind it, where there is one and room for it; new memory alone. -/
import Derived.Test.YtecmegllnbgobaaDoorRecordWalks
import Derived.Test.YtecmegllnbgobaaDoorCloneLaid
namespace Go.Proofs.YtecmegllnbgobaaDoor.apd
open Go.ChangeShapes Go.WideShapes Go.ChangeAt Go.RowKit Go.Proofs.YtecmegllnbgobaaDoor.fl Go.Proofs.YtecmegllnbgobaaDoor.bo Go.Proofs.YtecmegllnbgobaaDoor.pb
set_option linter.unusedVariables false

noncomputable def ans (xt : ByteArray) (l : List flP.Pr) : ByteArray := if (rcd.out l).size = 0 ∨ 200000 < xt.size + (rcd.out l).size then xt else xt ++ rcd.out l
noncomputable def can (xt : ByteArray) (l : List flP.Pr) : Bool := !decide ((rcd.out l).size = 0 ∨ 200000 < xt.size + (rcd.out l).size)
theorem rec_size (l : List flP.Pr) : (rcd.out l).size ≤ 100100 := by
  unfold rcd.out
  split
  · show 0 ≤ _; omega
  · rename_i h
    have h1 := pi.text_size (cs.sum (pb.out l) : Int) 4
    have h2 := long_size (v := pb.out l) (by omega)
    rw [ByteArray.size_append]
    omega

set_option maxHeartbeats 1000000 in
theorem spec_append (xt : ByteArray) (l : List flP.Pr) (a : Option Addr) (cap : Nat) (w : World) (hx : xt.size ≤ 1048576) (F : bs.Fit l) (hS : Row flP.c 3 w w.heap.size a l) :
    Calls Tryd.prog 22 #[.string xt, .slice a l.length cap] w fun e w' => e = .returned (.tuple #[.string (ans xt l), .bool (can xt l)]) ∧ Below w.heap.size w w' := by
  have h1 := rcd.spec_record l a cap w F hS
  have hz := rec_size l
  unfold ans can
  obtain ⟨s, hs⟩ : ∃ s, rcd.out l = s := ⟨_, rfl⟩
  rw [hs] at h1 hz ⊢
  clear hs hS F
  by_cases h0 : s.size = 0
  · obtain rfl := rcd.nil_of h0
    rw [if_pos (.inl rfl), decide_eq_true (.inl rfl)]
    go_enter Tryd.func22, Tryd.ntmps22
    go_wp2_with (go_at_call 14; refine h1.mono ?_; rintro e w1 ⟨rfl, hb1⟩)
    go_ret2
    exact ⟨rfl, hb1⟩
  have e0 := rcd.ne_nil h0
  by_cases hbig : 200000 < xt.size + s.size
  · rw [if_pos (.inr hbig), decide_eq_true (.inr hbig)]
    have e1 : (200000 : Int) - (s.size : Int) < (xt.size : Int) := by omega
    go_enter Tryd.func22, Tryd.ntmps22
    go_wp2_with (go_at_call 14; refine h1.mono ?_; rintro e w1 ⟨rfl, hb1⟩)
    go_ret2
    exact ⟨rfl, hb1⟩
  have e1 : ¬ (200000 : Int) - (s.size : Int) < (xt.size : Int) := by omega
  rw [if_neg (by omega), decide_eq_false (by omega)]
  go_enter Tryd.func22, Tryd.ntmps22
  go_wp2_with (go_at_call 14; refine h1.mono ?_; rintro e w1 ⟨rfl, hb1⟩)
  go_ret2
  exact ⟨rfl, hb1⟩

set_option maxHeartbeats 1000000 in
theorem impl_append (xt : ByteArray) (l : List flP.Pr) (a : Option Addr) (cap : Nat) (w : World) (htab : ∀ r, r < 16 → w.cell? ⟨0, r, none⟩ = some (.int .u32 (cs.tab r : Int))) (hx : xt.size ≤ 1048576) (F : bs.Fit l) (hS : Row flP.c 3 w w.heap.size a l) :
    Calls Tryd.prog 23 #[.string xt, .slice a l.length cap] w fun e w' => e = .returned (.tuple #[.string (ans xt l), .bool (can xt l)]) ∧ Below w.heap.size w w' := by
  have h1 := rcd.impl_record l a cap w htab F hS
  have hz := rec_size l
  have hcl := fun W => cl.clone xt W (by omega)
  unfold ans can
  obtain ⟨s, hs⟩ : ∃ s, rcd.out l = s := ⟨_, rfl⟩
  rw [hs] at h1 hz ⊢
  clear hs hS F htab
  by_cases h0 : s.size = 0
  · obtain rfl := rcd.nil_of h0
    rw [if_pos (.inl rfl), decide_eq_true (.inl rfl)]
    go_enter Tryd.func23, Tryd.ntmps23
    go_wp2_with (first | (go_at_call 16; refine h1.mono ?_; rintro e w1 ⟨rfl, hb1⟩; clear h1) | (go_at_call 48; refine (hcl _).mono ?_; rintro e w2 ⟨rfl, hb2⟩))
    go_ret2
    exact ⟨rfl, hb1.trans (hb2.mono hb1.size)⟩
  have e0 := rcd.ne_nil h0
  by_cases hbig : 200000 < xt.size + s.size
  · rw [if_pos (.inr hbig), decide_eq_true (.inr hbig)]
    have e1 : (200000 : Int) < (xt.size : Int) + (s.size : Int) := by omega
    go_enter Tryd.func23, Tryd.ntmps23
    go_wp2_with (first | (go_at_call 16; refine h1.mono ?_; rintro e w1 ⟨rfl, hb1⟩; clear h1) | (go_at_call 48; refine (hcl _).mono ?_; rintro e w2 ⟨rfl, hb2⟩))
    go_ret2
    exact ⟨rfl, hb1.trans (hb2.mono hb1.size)⟩
  have e1 : ¬ (200000 : Int) < (xt.size : Int) + (s.size : Int) := by omega
  rw [if_neg (by omega), decide_eq_false (by omega)]
  go_enter Tryd.func23, Tryd.ntmps23
  go_wp2_with (go_at_call 16; refine h1.mono ?_; rintro e w1 ⟨rfl, hb1⟩; clear h1)
  go_ret2
  exact ⟨rfl, hb1⟩
end Go.Proofs.YtecmegllnbgobaaDoor.apd
