/- A stream as it is drawn: its two lists lie in rows of their own at or above a block, or nowhere; how great it is. -/
import Derived.Test.YtlfhfcgcfggjcaaDrawOnce
import Derived.Test.YtlfhfcgcfggjcaaDrawBytes
import Derived.Test.YtlfhfcgcfggjcaaStreamMarkSpec
import Derived.Test.YtlfhfcgcfggjcaaStreamPutSpec
import Derived.Test.YtlfhfcgcfggjcaaStreamTrimSpec
namespace Go.Proofs.Ytlfhfcgcfggjcaa.dsl
open Go.ChangeShapes Go.WideShapes Go.ChangeAt Go.RowKit Go.Proofs.Ytlfhfcgcfggjcaa.fl Go.Proofs.Ytlfhfcgcfggjcaa.dw Go.Proofs.Ytlfhfcgcfggjcaa.rr Go.Proofs.Ytlfhfcgcfggjcaa.st Go.Proofs.Ytlfhfcgcfggjcaa.scp Go.Proofs.Ytlfhfcgcfggjcaa.spw
set_option linter.unusedVariables false

/-- its lists' rows -/
structure Dr (B : Nat) (W : World) (es : List flY.En) (ms : List Ex) (ga : Option Addr) (cg : Nat) (ha : Option Addr) (ch : Nat) : Prop where
  oe : W.ownsRow B 42 3 (.slice ga es.length cg) es.length (es.flatMap flY.c)
  om : W.ownsRow B 56 2 (.slice ha ms.length ch) ms.length (ms.flatMap flK.c)
theorem owns_p {W W' : World} {B p k m : Nat} {T : TypeId} {v : Value} {xs : List Value} (h : W.ownsRow B T m v k xs) (hb : On p W W') (hp : p < B) : W'.ownsRow B T m v k xs := by
  refine h.kept hb ?_
  cases hv : v.ownBlock with
  | none => exact .inl rfl
  | some g =>
    right
    have := (h.lt g hv).1
    intro e
    have := Option.some.inj e
    omega
section
variable {B p : Nat} {W W' : World} {es : List flY.En} {ms : List Ex} {ga ha : Option Addr} {cg ch : Nat}
theorem Dr.on (h : Dr B W es ms ga cg ha ch) (hb : On p W W') (hp : p < B) : Dr B W' es ms ga cg ha ch := ⟨owns_p h.oe hb hp, owns_p h.om hb hp⟩
theorem Dr.below (h : Dr B W es ms ga cg ha ch) (hb : Below W.heap.size W W') : Dr B W' es ms ga cg ha ch := by
  refine ⟨h.oe.kept (row := none) ⟨hb.os, hb.tape, hb.output, hb.size, fun k hk _ => hb.block k hk⟩ ?_, h.om.kept (row := none) ⟨hb.os, hb.tape, hb.output, hb.size, fun k hk _ => hb.block k hk⟩ ?_⟩
  · cases hv : (Value.slice ga es.length cg).ownBlock with
    | none => exact .inl rfl
    | some g => exact .inr (by simp)
  · cases hv : (Value.slice ha ms.length ch).ownBlock with
    | none => exact .inl rfl
    | some g => exact .inr (by simp)
theorem Dr.alloc (h : Dr B W es ms ga cg ha ch) (o : Obj) : Dr B (W.alloc o) es ms ga cg ha ch := h.below ((Below.refl _ _).alloc (Nat.le_refl _) _)
theorem Dr.drew (h : Dr B W es ms ga cg ha ch) : Dr B W.drew es ms ga cg ha ch := h.below (Below.refl _ _).drew
theorem Dr.low {B' : Nat} (h : Dr B W es ms ga cg ha ch) (hb : B' ≤ B) : Dr B' W es ms ga cg ha ch := ⟨own_low h.oe hb, own_low h.om hb⟩
theorem nil_dr (B : Nat) (W : World) : Dr B W [] [] none 0 none 0 := ⟨⟨rfl, .inl ⟨rfl, rfl⟩⟩, ⟨rfl, .inl ⟨rfl, rfl⟩⟩⟩
theorem dr_of (h1 : OR flY.c 3 42 W B ga cg es) (h2 : OR flK.c 2 56 W B ha ch ms) : Dr B W es ms ga cg ha ch := ⟨h1.2, h2.2⟩
theorem ry_na (hW : 0 < W.heap.size) (h : W.ownsRow B 42 3 (.slice ga es.length cg) es.length (es.flatMap flY.c)) : ∃ g, apo.NA ga g es.length cg ∧ RY W g es ∧ es.length ≤ cg := by
  have h0 := h
  obtain ⟨_, ⟨h1, h2⟩ | ⟨g, cap, cur, h1, _, _, hcap, _⟩⟩ := h
  · have : es = [] := List.length_eq_zero_iff.1 h2
    subst this
    cases h1
    exact ⟨0, .inr ⟨rfl, rfl, rfl⟩, ⟨hW, fun i e he => by simp at he⟩, Nat.le_refl _⟩
  · cases h1
    exact ⟨g, .inl rfl, ry_owns h0, hcap⟩
theorem re_na (hW : 0 < W.heap.size) (h : W.ownsRow B 56 2 (.slice ha ms.length ch) ms.length (ms.flatMap flK.c)) : ∃ g, apo.NA ha g ms.length ch ∧ RE W g ms ∧ ms.length ≤ ch := by
  have h0 := h
  obtain ⟨_, ⟨h1, h2⟩ | ⟨g, cap, cur, h1, _, _, hcap, _⟩⟩ := h
  · have : ms = [] := List.length_eq_zero_iff.1 h2
    subst this
    cases h1
    exact ⟨0, .inr ⟨rfl, rfl, rfl⟩, ⟨hW, fun i e he => by simp at he⟩, Nat.le_refl _⟩
  · cases h1
    exact ⟨g, .inl rfl, re_owns h0, hcap⟩
/-- as the contracts want it -/
theorem Dr.use (h : Dr B W es ms ga cg ha ch) (hW : 0 < W.heap.size) : ∃ g k, apo.NA ga g es.length cg ∧ apo.NA ha k ms.length ch ∧ RY W g es ∧ RE W k ms ∧ es.length ≤ cg ∧ ms.length ≤ ch := by
  obtain ⟨g, h1, h2, h3⟩ := ry_na hW h.oe
  obtain ⟨k, k1, k2, k3⟩ := re_na hW h.om
  exact ⟨g, k, h1, k1, h2, k2, h3, k3⟩
theorem Dr.rows (h : Dr B W es ms ga cg ha ch) : Row flY.c 3 W W.heap.size ga es ∧ Row flK.c 2 W W.heap.size ha ms := by
  obtain ⟨a, cap, hv, hr⟩ := fl.own_row flY.c_len h.oe
  obtain ⟨b, cap', hv', hr'⟩ := fl.own_row flK.c_len h.om
  cases hv
  cases hv'
  exact ⟨hr, hr'⟩
end
/-- how great it is -/
structure Sm (j : Nat) (nx : Int) (es : List flY.En) (ms : List Ex) : Prop where
  el : es.length ≤ j
  ml : ms.length ≤ j
  n0 : 0 ≤ nx
  n1 : nx ≤ j
  eb : ∀ e ∈ es, e.b.size ≤ 3
  mb : ∀ e ∈ ms, e.n.size ≤ 2
section
variable {j : Nat} {nx : Int} {es : List flY.En} {ms : List Ex}
theorem sm_nil : Sm 0 0 [] [] := ⟨Nat.le_refl _, Nat.le_refl _, Int.le_refl _, Int.le_refl _, fun e h => (by cases h), fun e h => (by cases h)⟩
theorem Sm.more {k : Nat} (h : Sm j nx es ms) (hk : j ≤ k) : Sm k nx es ms := ⟨by have := h.el; omega, by have := h.ml; omega, h.n0, by have := h.n1; omega, h.eb, h.mb⟩
theorem Sm.fit (h : Sm j nx es ms) (hj : j ≤ 1000) {sn : ByteArray} (hs : sn.size ≤ 1000) : Fit sn es ms :=
  ⟨by omega, by have := h.el; omega, by have := h.ml; omega, fun e he => by have := h.eb e he; omega, fun e he => by have := h.mb e he; omega⟩
theorem Sm.trim {sn : ByteArray} {lo c o : Int} (h : Sm j nx es ms) : Sm j nx (strm.ansE sn lo nx es ms c o) ms :=
  ⟨by have := h.el; unfold strm.ansE; rw [List.length_drop]; omega, h.ml, h.n0, h.n1, fun e he => h.eb e (List.mem_of_mem_drop he), h.mb⟩
theorem Sm.put {sn : ByteArray} {lo t : Int} {b : ByteArray} (h : Sm j nx es ms) (hb : b.size ≤ 3) : Sm (j + 1) (sput.ansN sn lo nx es ms t b) (sput.ansE sn lo nx es ms t b) ms := by
  unfold sput.ansN sput.ansE
  have h1 := h.el
  have h2 := h.n0
  have h3 := h.n1
  have h4 := h.ml
  split
  · refine ⟨by simp; omega, by omega, by omega, by omega, fun e he => ?_, h.mb⟩
    rcases List.mem_append.1 he with he | he
    · exact h.eb e he
    · rw [List.mem_singleton.1 he]; exact hb
  · exact h.more (by omega)
theorem Sm.mark {sn : ByteArray} {lo o : Int} {r : ByteArray} (h : Sm j nx es ms) (hb : r.size ≤ 2) : Sm (j + 1) nx es (smp.ansM sn lo nx es ms r o) := by
  have h1 := h.el
  have h3 := h.n1
  have h4 := h.ml
  have h5 := smp.ansM_le sn lo nx es ms r o
  refine ⟨by omega, by omega, h.n0, by omega, h.eb, fun e he => ?_⟩
  unfold smp.ansM at he
  split at he
  · rcases smp.setM_mem he with he | he
    · exact h.mb e he
    · rw [he]; exact hb
  · exact h.mb e he
end
end Go.Proofs.Ytlfhfcgcfggjcaa.dsl
