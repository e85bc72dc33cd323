/- The laws' marks in tables: laid, and held. -/
import Derived.Test.YtokaoafbgebelaaMrRun
namespace Go.Proofs.Ytokaoafbgebelaa.mrT
open Go.ChangeShapes Go.WideShapes Go.ChangeAt Go.RowKit Go.Proofs.Ytokaoafbgebelaa.fl Go.Proofs.Ytokaoafbgebelaa.fo Go.Proofs.Ytokaoafbgebelaa.rn Go.Proofs.Ytokaoafbgebelaa.mrR
set_option linter.unusedVariables false

/-- a table of its own: its fresh pairs, its runs, no block of two of them -/
structure MT (w : World) (B : Nat) (fa a : Option Addr) (l : List flP.Pr) (rs : List Rn) : Prop where
  fresh : MP w B fa l
  row : Row cR 1 w w.heap.size a rs
  runs : ∀ r ∈ rs, MP w B r.a r.l
  apart : Apart rs
  off : ∀ g o, a = some ⟨g, o, none⟩ → rs ≠ [] → ¬ bks rs g ∧ ¬ blk fa l g
  two : ∀ k, blk fa l k → ¬ bks rs k
/-- the table's marks are laid -/
structure KT (w : World) (B : Nat) (fa a : Option Addr) (n : Nat) (rs : List Rn) : Prop where
  fresh : MP w B fa (mrP.mks 1 n)
  row : Row cR 1 w w.heap.size a rs
  runs : Mkd w B (1 + 3 * n) rs rs.length
theorem row_kept {w w' : World} {S : Nat → Prop} {a : Option Addr} {rs : List Rn} (h : Row cR 1 w w.heap.size a rs) (ht : Tn w w' S) (hS : ∀ g o, a = some ⟨g, o, none⟩ → rs ≠ [] → ¬ S g) : Row cR 1 w' w'.heap.size a rs := by
  by_cases e : rs = []
  · exact .inl e
  · rcases h with h | ⟨b, off, rfl, hlt, hc⟩
    · exact absurd h e
    · refine .inr ⟨b, off, rfl, Nat.lt_of_lt_of_le hlt ht.size, fun i x hx j v hv => ?_⟩
      have h5 := hc i x hx j v hv
      have h6 := ht.block b hlt (hS b off rfl e)
      simp only [World.cell?, h6] at h5 ⊢
      exact h5
theorem KT.on {w w' : World} {B n : Nat} {fa a : Option Addr} {rs : List Rn} (h : KT w B fa a n rs) (hb : Below w.heap.size w w') : KT w' B fa a n rs :=
  ⟨Mine.below h.fresh hb, h.row.inn hb, fun i r hr hi => Mine.below (h.runs i r hr hi) hb⟩
theorem MT.kept {w w' : World} {B : Nat} {fa a : Option Addr} {l : List flP.Pr} {rs : List Rn} (h : MT w B fa a l rs) (hb : Below w.heap.size w w') : MT w' B fa a l rs :=
  ⟨Mine.below h.fresh hb, h.row.inn hb, fun r hr => Mine.below (h.runs r hr) hb, h.apart, h.off, h.two⟩
/-- behind the marks of the runs -/
theorem MT.fin {w w1 w2 : World} {B : Nat} {fa a : Option Addr} {l : List flP.Pr} {rs : List Rn} (h : MT w B fa a l rs) (hf : MP w1 B fa (mrP.mks 1 l.length)) (hr : Row cR 1 w1 w1.heap.size a rs) (ht : Tn w1 w2 (bks rs)) (hk : Mkd w2 B (1 + 3 * l.length) rs rs.length) : KT w2 B fa a l.length rs :=
  ⟨Mine.kept hf ht (fun k hk => h.two k (blk_len hk (mrP.mks_len _ _))), row_kept hr ht (fun g o e hn => (h.off g o e hn).1), hk⟩
/-- the blocks of a table's pairs -/
def own (fa : Option Addr) (l : List flP.Pr) (rs : List Rn) : Nat → Prop := fun k => blk fa l k ∨ bks rs k

end Go.Proofs.Ytokaoafbgebelaa.mrT
