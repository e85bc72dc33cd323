/- The two Says, the specification's and the program's, answer alike at every channel and method; they lay new memory alone. -/
import Derived.Test.YtnmooolnmhidbaaDoorPutMethodLaw
import Derived.Test.YtnmooolnmhidbaaDoorPutFrameWalks
namespace Go.Proofs.YtnmooolnmhidbaaDoor.sy
set_option linter.unusedVariables false
open Go.ChangeShapes Go.WideShapes Go.ChangeAt Go.RowKit Go.Proofs.YtnmooolnmhidbaaDoor.ls Go.Proofs.YtnmooolnmhidbaaDoor.me Go.Proofs.YtnmooolnmhidbaaDoor.mp Go.Proofs.YtnmooolnmhidbaaDoor.wm Go.Proofs.YtnmooolnmhidbaaDoor.mi Go.Proofs.YtnmooolnmhidbaaDoor.mlp

/-- WHAT BOTH ANSWER -/
def said (n : Int) (p : ByteArray) : ByteArray := if p.size = 0 then ByteArray.empty else pf.bytes 1 n p

theorem empty_of {s : ByteArray} (h : s.size = 0) : s = ⟨#[]⟩ := by
  apply ByteArray.ext
  apply Array.toList_inj.1
  have h0 : s.data.toList.length = 0 := by simpa using h
  rw [List.length_eq_zero_iff.1 h0]

theorem impl_say (n c i : Int) (ts : List ByteArray) (ns : List Int) (ta na : Option Addr) (tc nc : Nat) (w : World) (hn : n ≤ 9223372036854775807) (h : M w c i ts ns ta na tc nc) (ht : Tab w) :
    Calls Tryd.prog 20 #[.int .i64 n, .agg #[.int .i64 c, .int .i64 i, .slice ta ts.length tc, .slice na ns.length nc]] w fun e w' => e = .returned (.string (said n (outB c i ts ns))) ∧ Below w.heap.size w w' := by
  have hb : Below w.heap.size w (w.alloc (.cells #[.int .i64 c, .int .i64 i, .slice ta ts.length tc, .slice na ns.length nc] 28)) := (Below.refl _ _).alloc (Nat.le_refl _) _
  have hp := impl_put c i ts ns ta na tc nc _ (h.on hb) (tab_on ht hb)
  obtain ⟨p, hpe⟩ : ∃ p, outB c i ts ns = p := ⟨_, rfl⟩
  rw [hpe] at hp ⊢
  clear hpe h ht
  by_cases h0 : p.size = 0
  · have HSD : Hid (said n p = ⟨#[]⟩) := by unfold Hid said; rw [if_pos h0]; rfl
    obtain rfl := empty_of h0
    go_enter Tryd.func20, Tryd.ntmps20
    go_wp2_with (go_at_call 14; refine hp.mono ?_; rintro e w1 ⟨rfl, hb1⟩)
    go_ret
    exact ⟨by rw [HSD.out]; rfl, hb.trans (hb1.mono (by simp))⟩
  · have HSD : Hid (said n p = pf.bytes 1 n p) := by unfold Hid said; rw [if_neg h0]
    obtain ⟨he1, he2⟩ := wt.ne_empty (s := p) (by omega)
    have hf := fun W => pf.impl_put 1 n p W (by omega) hn
    go_enter Tryd.func20, Tryd.ntmps20
    go_wp2_with (first | (go_at_call 14; refine hp.mono ?_; rintro e w1 ⟨rfl, hb1⟩) | (go_at_call 48; refine (hf _).mono ?_; rintro e w2 ⟨rfl, hb2⟩))
    go_ret
    have hbb := hb.trans (hb1.mono (by simp))
    exact ⟨by rw [HSD.out]; rfl, hbb.trans (hb2.mono hbb.size)⟩

theorem spec_l03 (n : Int) (p : ByteArray) (w : World) (hn : n ≤ 9223372036854775807) : Calls Tryd.prog 47 #[.int .i64 n, .string p] w fun e w' => e = .returned (.string (said n p)) ∧ Below w.heap.size w w' := by
  by_cases h0 : p.size = 0
  · have HSD : Hid (said n p = ⟨#[]⟩) := by unfold Hid said; rw [if_pos h0]; rfl
    obtain rfl := empty_of h0
    go_enter Tryd.func47, Tryd.ntmps47
    go_wp2
    go_ret
    exact ⟨by rw [HSD.out]; rfl, Below.refl _ _⟩
  · have HSD : Hid (said n p = pf.bytes 1 n p) := by unfold Hid said; rw [if_neg h0]
    obtain ⟨he1, he2⟩ := wt.ne_empty (s := p) (by omega)
    have hf := fun W => pf.spec_put 1 n p W (by omega) hn
    go_enter Tryd.func47, Tryd.ntmps47
    go_wp2_with (go_at_call 68; refine (hf _).mono ?_; rintro e w2 ⟨rfl, hb2⟩)
    go_ret
    exact ⟨by rw [HSD.out]; rfl, hb2⟩

theorem spec_say (n c i : Int) (ts : List ByteArray) (ns : List Int) (ta na : Option Addr) (tc nc : Nat) (w : World) (hn : n ≤ 9223372036854775807) (h : M w c i ts ns ta na tc nc) :
    Calls Tryd.prog 19 #[.int .i64 n, .agg #[.int .i64 c, .int .i64 i, .slice ta ts.length tc, .slice na ns.length nc]] w fun e w' => e = .returned (.string (said n (outB c i ts ns))) ∧ Below w.heap.size w w' := by
  have hb : Below w.heap.size w (w.alloc (.cells #[.int .i64 c, .int .i64 i, .slice ta ts.length tc, .slice na ns.length nc] 28)) := (Below.refl _ _).alloc (Nat.le_refl _) _
  have hp := spec_put' (h.on hb)
  obtain ⟨p, hpe⟩ : ∃ p, outB c i ts ns = p := ⟨_, rfl⟩
  rw [hpe] at hp ⊢
  clear hpe h
  have hl := fun W => spec_l03 n p W hn
  go_enter Tryd.func19, Tryd.ntmps19
  go_wp2_with (first | (go_at_call 13; refine hp.mono ?_; rintro e w1 ⟨rfl, hb1⟩) | (go_at_call 47; refine (hl _).mono ?_; rintro e w2 ⟨rfl, hb2⟩))
  go_ret
  have hbb := hb.trans (hb1.mono (by simp))
  exact ⟨rfl, hbb.trans (hb2.mono hbb.size)⟩
end Go.Proofs.YtnmooolnmhidbaaDoor.sy
