/- The laws' marks in tables: laid, and held. -/
import Derived.Test.YtlgcciaebkfnjaaGreatDoorMrRun
namespace Go.Proofs.YtlgcciaebkfnjaaGreatDoor.mrT
open Go.ChangeShapes Go.WideShapes Go.ChangeAt Go.RowKit Go.Proofs.YtlgcciaebkfnjaaGreatDoor.fl Go.Proofs.YtlgcciaebkfnjaaGreatDoor.fo Go.Proofs.YtlgcciaebkfnjaaGreatDoor.rn Go.Proofs.YtlgcciaebkfnjaaGreatDoor.mrR
set_option linter.unusedVariables false

/-- a table of its own: its fresh pairs, its runs, no block of two of them -/
structure MT (w : World) (B : Nat) (fa a : Option Addr) (l : List flP.Pr) (rs : List Rn) : Prop where
  fresh : MP w B fa l
  row : Row cR 1 w w.heap.size a rs
  runs : ∀ r ∈ rs, MP w B r.a r.l
  apart : Apart rs
  off : ∀ g o, a = some ⟨g, o, none⟩ → rs ≠ [] → ¬ bks rs g ∧ ¬ blk fa l g
  two : ∀ k, blk fa l k → ¬ bks rs k
/-- the table's marks are laid -/
structure KT (w : World) (B : Nat) (fa a : Option Addr) (n : Nat) (rs : List Rn) : Prop where
  fresh : MP w B fa (mrP.mks 1 n)
  row : Row cR 1 w w.heap.size a rs
  runs : Mkd w B (1 + 3 * n) rs rs.length
theorem row_kept {w w' : World} {S : Nat → Prop} {a : Option Addr} {rs : List Rn} (h : Row cR 1 w w.heap.size a rs) (ht : Tn w w' S) (hS : ∀ g o, a = some ⟨g, o, none⟩ → rs ≠ [] → ¬ S g) : Row cR 1 w' w'.heap.size a rs := by
  by_cases e : rs = []
  · exact .inl e
  · rcases h with h | ⟨b, off, rfl, hlt, hc⟩
    · exact absurd h e
    · refine .inr ⟨b, off, rfl, Nat.lt_of_lt_of_le hlt ht.size, fun i x hx j v hv => ?_⟩
      have h5 := hc i x hx j v hv
      have h6 := ht.block b hlt (hS b off rfl e)
      simp only [World.cell?, h6] at h5 ⊢
      exact h5
theorem KT.on {w w' : World} {B n : Nat} {fa a : Option Addr} {rs : List Rn} (h : KT w B fa a n rs) (hb : Below w.heap.size w w') : KT w' B fa a n rs :=
  ⟨Mine.below h.fresh hb, h.row.inn hb, fun i r hr hi => Mine.below (h.runs i r hr hi) hb⟩
theorem MT.kept {w w' : World} {B : Nat} {fa a : Option Addr} {l : List flP.Pr} {rs : List Rn} (h : MT w B fa a l rs) (hb : Below w.heap.size w w') : MT w' B fa a l rs :=
  ⟨Mine.below h.fresh hb, h.row.inn hb, fun r hr => Mine.below (h.runs r hr) hb, h.apart, h.off, h.two⟩
/-- behind the marks of the fresh pairs -/
theorem MT.mid {w w' : World} {B : Nat} {fa a : Option Addr} {l : List flP.Pr} {rs : List Rn} (h : MT w B fa a l rs) (ht : Tn w w' (blk fa l)) : Row cR 1 w' w'.heap.size a rs ∧ ∀ r ∈ rs, MP w' B r.a r.l :=
  ⟨row_kept h.row ht (fun g o e hn => (h.off g o e hn).2), fun r hr => Mine.kept (h.runs r hr) ht (fun k hk hf => h.two k hf ⟨r, hr, hk⟩)⟩
/-- behind the marks of the runs -/
theorem MT.fin {w w1 w2 : World} {B : Nat} {fa a : Option Addr} {l : List flP.Pr} {rs : List Rn} (h : MT w B fa a l rs) (hf : MP w1 B fa (mrP.mks 1 l.length)) (hr : Row cR 1 w1 w1.heap.size a rs) (ht : Tn w1 w2 (bks rs)) (hk : Mkd w2 B (1 + 3 * l.length) rs rs.length) : KT w2 B fa a l.length rs :=
  ⟨Mine.kept hf ht (fun k hk => h.two k (blk_len hk (mrP.mks_len _ _))), row_kept hr ht (fun g o e hn => (h.off g o e hn).1), hk⟩
/-- the blocks of a table's pairs -/
def own (fa : Option Addr) (l : List flP.Pr) (rs : List Rn) : Nat → Prop := fun k => blk fa l k ∨ bks rs k

set_option maxRecDepth 100000 in
set_option maxHeartbeats 1000000 in
theorem mark_table (l : List flP.Pr) (rs : List Rn) (fa a : Option Addr) (fc c B : Nat) (w : World) (hl : l.length ≤ 2000000) (hr : rs.length ≤ 2000000) (ht : bulk ln rs ≤ 2000000) (h : MT w B fa a l rs) (hnb : ∀ g o, a = some ⟨g, o, none⟩ → ¬ bks rs g) :
    Calls Tryz.prog 68 #[.agg #[.slice fa l.length fc, .slice a rs.length c], .int .i64 1] w fun e w' => e = .returned (.int .i64 (1 + 3 * l.length + 3 * bulk ln rs : Nat)) ∧ Tn w w' (own fa l rs) ∧ KT w' B fa a l.length rs := by
  have hal : Below w.heap.size w (w.alloc (.cells #[.slice fa l.length fc, .slice a rs.length c] 27)) := (Below.refl _ _).alloc (Nat.le_refl _) _
  have hA := bnew w #[.slice fa l.length fc, .slice a rs.length c] 27
  have h1 := h.kept hal
  have hbl : ∀ k, blk fa l k → k < w.heap.size := fun k hk => (Mine.blk_le h.fresh hk).2
  obtain ⟨W, hW⟩ : ∃ W, w.alloc (.cells #[.slice fa l.length fc, .slice a rs.length c] 27) = W := ⟨_, rfl⟩
  rw [hW] at hal hA h1
  have hmE := mark_any l fa fc 1 B W (by omega) (by omega) h1.fresh
  have x0 : W.cell? ⟨w.heap.size, 0, none⟩ = some (.slice fa l.length fc) := bcell hA rfl
  have HA : Hid (W.heap[w.heap.size]? = some (.cells #[.slice fa l.length fc, .slice a rs.length c] 27 (0, 0))) := hA
  have H1 : Hid (MT W B fa a l rs) := h1
  have HBL : Hid (∀ k, blk fa l k → k < w.heap.size) := hbl
  have HNB : Hid (∀ g o, a = some ⟨g, o, none⟩ → ¬ bks rs g) := hnb
  have hWs := (Array.getElem?_eq_some_iff.1 hA).1
  clear h h1 hA hbl hnb
  go_enter Tryz.func68, Tryz.ntmps68
  go_wp2_with (go_at_call 108; fail)
  clear hW
  refine hmE.mono ?_
  rintro e w1 ⟨rfl, hg1, fe1⟩
  have x1 : w1.cell? ⟨w.heap.size, 1, none⟩ = some (.slice a rs.length c) := bcell ((hg1.block w.heap.size hWs (fun hk => Nat.lt_irrefl _ (HBL.out _ hk))).trans HA.out) rfl
  obtain ⟨hr1, hm1⟩ := H1.out.mid hg1
  have hmB := mark_runs rs a c (1 + 3 * l.length) B w1 hr ht (by omega) hr1 HNB.out hm1 H1.out.apart
  have HFE : Hid (MP w1 B fa (mrP.mks 1 l.length)) := fe1
  have HR1 : Hid (Row cR 1 w1 w1.heap.size a rs) := hr1
  clear hmE x0 fe1 hr1 hm1
  go_wp2_with (go_at_call 109; fail)
  refine hmB.mono ?_
  rintro e w2 ⟨rfl, hg2, fb2⟩
  have HK : Hid (KT w2 B fa a l.length rs) := H1.out.fin HFE.out HR1.out hg2 fb2
  clear hmB x1 fb2
  go_wp2
  go_ret
  exact ⟨rfl, ((Tn.of _ hal).trans (hg1.wide (fun k hk => .inl hk))).trans (hg2.wide (fun k hk => .inr hk)), HK.out⟩

set_option maxRecDepth 100000 in
set_option maxHeartbeats 1000000 in
theorem held_table (n : Nat) (rs : List Rn) (fa a : Option Addr) (fc c B : Nat) (w : World) (hl : n ≤ 2000000) (hr : rs.length ≤ 2000000) (ht : bulk ln rs ≤ 2000000) (h : KT w B fa a n rs) :
    Calls Tryz.prog 69 #[.agg #[.slice fa n fc, .slice a rs.length c], .int .i64 1] w fun e w' => e = .returned (.int .i64 (1 + 3 * n + 3 * bulk ln rs : Nat)) ∧ Below w.heap.size w w' := by
  have hal : Below w.heap.size w (w.alloc (.cells #[.slice fa n fc, .slice a rs.length c] 27)) := (Below.refl _ _).alloc (Nat.le_refl _) _
  have hA := bnew w #[.slice fa n fc, .slice a rs.length c] 27
  have h1 := h.on hal
  obtain ⟨W, hW⟩ : ∃ W, w.alloc (.cells #[.slice fa n fc, .slice a rs.length c] 27) = W := ⟨_, rfl⟩
  rw [hW] at hal hA h1
  have hmE := held_any n fa fc 1 B W (by omega) (by omega) h1.fresh
  have x0 : W.cell? ⟨w.heap.size, 0, none⟩ = some (.slice fa n fc) := bcell hA rfl
  have HA : Hid (W.heap[w.heap.size]? = some (.cells #[.slice fa n fc, .slice a rs.length c] 27 (0, 0))) := hA
  have H1 : Hid (KT W B fa a n rs) := h1
  have hWs := (Array.getElem?_eq_some_iff.1 hA).1
  have hn1 : ¬ ((1 + 3 * n : Nat) : Int) < 0 := by omega
  have hn2 : ¬ ((1 + 3 * n + 3 * bulk ln rs : Nat) : Int) < 0 := by omega
  clear h h1 hA
  go_enter Tryz.func69, Tryz.ntmps69
  go_wp2_with (go_at_call 110; fail)
  clear hW
  refine hmE.mono ?_
  rintro e w1 ⟨rfl, hb1⟩
  have x1 : w1.cell? ⟨w.heap.size, 1, none⟩ = some (.slice a rs.length c) := bcell (bstay HA.out hb1 hWs) rfl
  have h2 := H1.out.on hb1
  have hmB := held_runs rs a c (1 + 3 * n) B w1 hr ht (by omega) h2.row h2.runs
  clear hmE x0 h2
  go_wp2_with (go_at_call 111; fail)
  refine hmB.mono ?_
  rintro e w2 ⟨rfl, hb2⟩
  clear hmB x1
  go_wp2
  go_ret
  exact ⟨rfl, hal.trans ((hb1.trans (hb2.mono hb1.size)).mono hal.size)⟩
end Go.Proofs.YtlgcciaebkfnjaaGreatDoor.mrT
