/- Record, of the specification and of the program: the sum, the length and the bytes of a batch; new memory alone. -/
import Derived.Test.YtecmegllnbgobaaDoorPutBatchSpec
import Derived.Test.YtecmegllnbgobaaDoorPutBatchImpl
import Derived.Test.YtecmegllnbgobaaDoorCheckSumWalks
namespace Go.Proofs.YtecmegllnbgobaaDoor.rcd
open Go.ChangeShapes Go.WideShapes Go.ChangeAt Go.RowKit Go.Proofs.YtecmegllnbgobaaDoor.fl Go.Proofs.YtecmegllnbgobaaDoor.bo Go.Proofs.YtecmegllnbgobaaDoor.pb
set_option linter.unusedVariables false

noncomputable def out (l : List flP.Pr) : ByteArray := if (pb.out l).size = 0 ∨ 100000 < (pb.out l).size then ⟨#[]⟩ else pi.text (cs.sum (pb.out l) : Int) 4 ++ pl.out (pb.out l)
theorem sum_lt (k : ByteArray) : cs.sum k < 4294967296 := cs.xor_lt (cs.st_lt k _) (by decide)
theorem nil_of {s : ByteArray} (h : s.size = 0) : s = ⟨#[]⟩ := by
  obtain ⟨⟨l⟩⟩ := s
  cases l with
  | nil => rfl
  | cons a r => simp [ByteArray.size] at h
theorem ne_nil {s : ByteArray} (h : s.size ≠ 0) : (s.toList == ([] : List UInt8)) = false := by
  obtain ⟨⟨l⟩⟩ := s
  cases l with
  | nil => exact absurd rfl h
  | cons a r => simp [ByteArray.toList_eq]
theorem long_ne {s : ByteArray} (h0 : s.size ≠ 0) (h : s.size ≤ 100000) : (pl.out s).size ≠ 0 := by
  unfold pl.out
  rw [if_pos h, ByteArray.size_append]
  omega

set_option maxHeartbeats 1000000 in
theorem spec_record (l : List flP.Pr) (a : Option Addr) (cap : Nat) (w : World) (F : bs.Fit l) (hS : Row flP.c 3 w w.heap.size a l) :
    Calls Tryd.prog 14 #[.slice a l.length cap] w fun e w' => e = .returned (.string (out l)) ∧ Below w.heap.size w w' := by
  have h1 := pbs.spec_put l a cap w F hS
  have hsz := out_size l
  unfold out
  obtain ⟨s, hs⟩ : ∃ s, pb.out l = s := ⟨_, rfl⟩
  rw [hs] at h1 hsz ⊢
  clear hs hS F
  by_cases h0 : s.size = 0
  · obtain rfl := nil_of h0
    rw [if_pos (.inl rfl)]
    go_enter Tryd.func14, Tryd.ntmps14
    go_wp2_with (go_at_call 38; refine h1.mono ?_; rintro e w1 ⟨rfl, hb1⟩)
    go_ret
    exact ⟨rfl, hb1⟩
  have e0 := ne_nil h0
  by_cases hbig : 100000 < s.size
  · rw [if_pos (.inr hbig)]
    have e1 : (100000 : Int) < (s.size : Int) := by omega
    go_enter Tryd.func14, Tryd.ntmps14
    go_wp2_with (go_at_call 38; refine h1.mono ?_; rintro e w1 ⟨rfl, hb1⟩)
    go_ret
    exact ⟨rfl, hb1⟩
  have e1 : ¬ (100000 : Int) < (s.size : Int) := by omega
  rw [if_neg (by omega)]
  have hl := sum_lt s
  have hc := fun W => cs.spec_sum s W (by omega)
  have hts := pi.text_size (cs.sum s : Int) 4
  have hps := long_size (v := s) (by omega)
  have hp := fun W => pl.spec_putLong s W (by omega)
  obtain ⟨m, hm⟩ : ∃ m, cs.sum s = m := ⟨_, rfl⟩
  simp only [hm] at hc hts hl ⊢
  have hi := fun W => pi.spec_put (m : Int) 4 W (by omega)
  have i1 : IntKind.i64.wrap (m : Int) = (m : Int) := by rw [IntKind.wrap_i64]; omega
  clear hm
  go_enter Tryd.func14, Tryd.ntmps14
  go_wp2_with (first | (go_at_call 38; refine h1.mono ?_; rintro e w1 ⟨rfl, hb1⟩; clear h1) | (go_at_call 40; refine (hc _).mono ?_; rintro e w0 ⟨rfl, hw0⟩; rw [← hw0]; clear hw0 w0) | (go_at_call 39; refine (hi _).mono ?_; rintro e w2 ⟨rfl, hb2⟩) | (go_at_call 41; refine (hp _).mono ?_; rintro e w3 ⟨rfl, hb3⟩))
  go_ret
  exact ⟨rfl, hb1.trans ((hb2.trans (hb3.mono hb2.size)).mono hb1.size)⟩

set_option maxHeartbeats 1000000 in
theorem impl_record (l : List flP.Pr) (a : Option Addr) (cap : Nat) (w : World) (htab : ∀ r, r < 16 → w.cell? ⟨0, r, none⟩ = some (.int .u32 (cs.tab r : Int))) (F : bs.Fit l) (hS : Row flP.c 3 w w.heap.size a l) :
    Calls Tryd.prog 16 #[.slice a l.length cap] w fun e w' => e = .returned (.string (out l)) ∧ Below w.heap.size w w' := by
  have h1 := pbi.impl_put l a cap w F hS
  have hsz := out_size l
  unfold out
  obtain ⟨s, hs⟩ : ∃ s, pb.out l = s := ⟨_, rfl⟩
  rw [hs] at h1 hsz ⊢
  have HT : Hid (∀ r, r < 16 → w.cell? ⟨0, r, none⟩ = some (.int .u32 (cs.tab r : Int))) := htab
  have hgl : 0 < w.heap.size := block_lt_of_cell (htab 0 (by decide))
  have hp := fun W => pl.impl_putLong s W (by omega)
  clear hs hS F htab
  by_cases h0 : s.size = 0
  · obtain rfl := nil_of h0
    rw [if_pos (.inl rfl)]
    go_enter Tryd.func16, Tryd.ntmps16
    go_wp2_with (first | (go_at_call 43; refine h1.mono ?_; rintro e w1 ⟨rfl, hb1⟩; clear h1) | (go_at_call 44; refine (hp _).mono ?_; rintro e w3 ⟨rfl, hb3⟩))
    go_ret
    exact ⟨rfl, hb1.trans (hb3.mono hb1.size)⟩
  have e0 := ne_nil h0
  by_cases hbig : 100000 < s.size
  · rw [if_pos (.inr hbig)]
    have ho : pl.out s = ⟨#[]⟩ := by unfold pl.out; rw [if_neg (by omega)]; rfl
    simp only [ho] at hp
    go_enter Tryd.func16, Tryd.ntmps16
    go_wp2_with (first | (go_at_call 43; refine h1.mono ?_; rintro e w1 ⟨rfl, hb1⟩; clear h1) | (go_at_call 44; refine (hp _).mono ?_; rintro e w3 ⟨rfl, hb3⟩))
    go_ret
    exact ⟨rfl, hb1.trans (hb3.mono hb1.size)⟩
  rw [if_neg (by omega)]
  have e2 := ne_nil (long_ne h0 (show s.size ≤ 100000 by omega))
  have hl := sum_lt s
  have hc : ∀ W, Below w.heap.size w W → Calls Tryd.prog 46 #[.string s] W fun e w' => e = .returned (.int .u32 (cs.sum s)) ∧ W = w' := fun W h => cs.impl_sum s W (by omega) fun r hr => (h.cell (p := ⟨0, r, none⟩) hgl).trans (HT.out r hr)
  have hts := pi.text_size (cs.sum s : Int) 4
  have hps := long_size (v := s) (by omega)
  obtain ⟨m, hm⟩ : ∃ m, cs.sum s = m := ⟨_, rfl⟩
  simp only [hm] at hc hts hl ⊢
  have hi := fun W => pi.impl_put (m : Int) 4 W (by omega)
  have i1 : IntKind.i64.wrap (m : Int) = (m : Int) := by rw [IntKind.wrap_i64]; omega
  obtain ⟨q, hq⟩ : ∃ q, pl.out s = q := ⟨_, rfl⟩
  simp only [hq] at hp e2 hps ⊢
  clear hm hq
  go_enter Tryd.func16, Tryd.ntmps16
  go_wp2_with (first | (go_at_call 43; refine h1.mono ?_; rintro e w1 ⟨rfl, hb1⟩; clear h1) | (go_at_call 44; refine (hp _).mono ?_; rintro e w3 ⟨rfl, hb3⟩; have hB3 : Below w.heap.size w w3 := hb1.trans (hb3.mono hb1.size); have hc3 := hc w3 hB3) | (go_at_call 46; refine hc3.mono ?_; rintro e w0 ⟨rfl, hw0⟩; rw [← hw0]; clear hw0 w0) | (go_at_call 45; refine (hi _).mono ?_; rintro e w2 ⟨rfl, hb2⟩))
  go_ret
  exact ⟨rfl, hB3.trans (hb2.mono hB3.size)⟩

noncomputable def ans (xt : ByteArray) (l : List flP.Pr) : ByteArray := if (out l).size = 0 ∨ 200000 < xt.size + (out l).size then xt else xt ++ out l
noncomputable def can (xt : ByteArray) (l : List flP.Pr) : Bool := !(decide ((out l).size = 0) || decide (200000 < xt.size + (out l).size))
end Go.Proofs.YtecmegllnbgobaaDoor.rcd
