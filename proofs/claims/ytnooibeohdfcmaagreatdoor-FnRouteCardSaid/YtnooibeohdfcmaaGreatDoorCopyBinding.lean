/- copyBinding: the same binding, each text cloned; new memory alone. -/
import Derived.Test.YtnooibeohdfcmaaGreatDoorDoneKit
import Derived.Test.YtnooibeohdfcmaaGreatDoorCloneLaid
import Derived.Test.YtnooibeohdfcmaaGreatDoorRouteLib
import Derived.Test.YtnooibeohdfcmaaGreatDoorFlatLib
namespace Go.Proofs.YtnooibeohdfcmaaGreatDoor.cb
open Go.ChangeShapes Go.WideShapes Go.ChangeAt Go.RowKit Go.Proofs.YtnooibeohdfcmaaGreatDoor.rr Go.Proofs.YtnooibeohdfcmaaGreatDoor.fl
set_option linter.unusedVariables false

def fin (s : Nat) (x k q : ByteArray) : Act := { tmps := #[.agg #[.string x, .string k, .string q], .pointer (some ⟨s, 0, none⟩), .pointer (some ⟨s + 1, 0, none⟩), .pointer (some ⟨s, 0, none⟩), .string x, .string x, .pointer (some ⟨s, 1, none⟩), .string k, .string k, .pointer (some ⟨s, 2, none⟩), .string q, .string q, .agg #[.string x, .string k, .string q]], defers := [] }

/-- the worlds on the way: nothing that was there is turned; the answer is laid once the store is done -/
def D (w : World) (x k q : ByteArray) (b : Bool) (W : World) : Prop :=
  Below w.heap.size w W ∧ W.heap[w.heap.size]? = some (.cells #[.string x, .string k, .string q] 45 (0, 0)) ∧
    W.heap[w.heap.size + 1]? = some (.cells (if b then #[.string x, .string k, .string q] else #[.string ByteArray.empty, .string ByteArray.empty, .string ByteArray.empty]) 45 (0, 0))
theorem D.on {w : World} {x k q : ByteArray} {b : Bool} {W W' : World} (h : D w x k q b W) (hb : Below W.heap.size W W') : D w x k q b W' := by
  obtain ⟨h1, h2, h3⟩ := h
  have hs : w.heap.size + 1 < W.heap.size := (Array.getElem?_eq_some_iff.1 h3).1
  exact ⟨h1.trans (hb.mono h1.size), bstay h2 hb (by omega), bstay h3 hb hs⟩

set_option maxRecDepth 100000 in
set_option maxHeartbeats 1000000 in
theorem copy_binding (e : Bi) (w : World) (hx : e.x.size ≤ 1048576 ∧ e.k.size ≤ 1048576 ∧ e.q.size ≤ 1048576) : Calls Tryz.prog 38 #[.agg #[.string e.x, .string e.k, .string e.q]] w fun r w' => r = .returned (.agg #[.string e.x, .string e.k, .string e.q]) ∧ Below w.heap.size w w' := by
  obtain ⟨x, k, q⟩ := e
  obtain ⟨hx1, hx2, hx3⟩ := hx
  have cl1 := fun W => cl.clone x W (by have : x.size ≤ 1048576 := hx1; omega)
  have cl2 := fun W => cl.clone k W (by have : k.size ≤ 1048576 := hx2; omega)
  have cl3 := fun W => cl.clone q W (by have : q.size ≤ 1048576 := hx3; omega)
  have h0 : D w x k q false ((w.alloc (.cells #[.string x, .string k, .string q] 45)).alloc (.cells #[.string ByteArray.empty, .string ByteArray.empty, .string ByteArray.empty] 45)).drew := by
    refine ⟨(((Below.refl _ _).alloc (Nat.le_refl _) _).alloc (by simp) _).drew, ?_, ?_⟩
    · exact bold (bnew w _ _) _
    · have := bnew (w.alloc (.cells #[.string x, .string k, .string q] 45)) #[.string ByteArray.empty, .string ByteArray.empty, .string ByteArray.empty] 45
      rw [World.size_alloc] at this
      exact this
  go_enter Tryz.func38, Tryz.ntmps38
  go_wp2
  refine dn.region_done (fin w.heap.size x k q) (dk.Cl (D w x k q) 10) (by kernel_rfl) (by kernel_rfl) rfl rfl [0, 1, 2] (by kernel_rfl) (fun s hs => by simp at hs; rcases hs with rfl | rfl | rfl <;> rfl) h0 ?each ?fin
  case each =>
    refine ⟨dk.q (by decide) (.pointer (some ⟨w.heap.size, 0, none⟩)) (by rintro _ ⟨⟩; rfl) (fun b W h => by simp [execOp, go_sem, fin, Act.eval]), ?_⟩
    refine ⟨dk.q (by decide) (.string x) (by rintro _ ⟨⟩; rfl) (fun b W h => by have c : W.cell? ⟨w.heap.size, 0, none⟩ = some (.string x) := bcell h.2.1 rfl; simp [execOp, go_sem, fin, Act.eval, c]), ?_⟩
    refine ⟨dk.call (by decide) 27 #[.string x] (.string x) (by rintro _ ⟨⟩; rfl) (fun b W h => by simp [go_sem, fin, Act.eval]) (fun b W h => (cl1 W).mono fun e w' ⟨h1, h2⟩ => ⟨h1, h.on h2⟩), ?_⟩
    refine ⟨dk.q (by decide) (.pointer (some ⟨w.heap.size, 1, none⟩)) (by rintro _ ⟨⟩; rfl) (fun b W h => by simp [execOp, go_sem, fin, Act.eval]), ?_⟩
    refine ⟨dk.q (by decide) (.string k) (by rintro _ ⟨⟩; rfl) (fun b W h => by have c : W.cell? ⟨w.heap.size, 1, none⟩ = some (.string k) := bcell h.2.1 rfl; simp [execOp, go_sem, fin, Act.eval, c]), ?_⟩
    refine ⟨dk.call (by decide) 27 #[.string k] (.string k) (by rintro _ ⟨⟩; rfl) (fun b W h => by simp [go_sem, fin, Act.eval]) (fun b W h => (cl2 W).mono fun e w' ⟨h1, h2⟩ => ⟨h1, h.on h2⟩), ?_⟩
    refine ⟨dk.q (by decide) (.pointer (some ⟨w.heap.size, 2, none⟩)) (by rintro _ ⟨⟩; rfl) (fun b W h => by simp [execOp, go_sem, fin, Act.eval]), ?_⟩
    refine ⟨dk.q (by decide) (.string q) (by rintro _ ⟨⟩; rfl) (fun b W h => by have c : W.cell? ⟨w.heap.size, 2, none⟩ = some (.string q) := bcell h.2.1 rfl; simp [execOp, go_sem, fin, Act.eval, c]), ?_⟩
    refine ⟨dk.call (by decide) 27 #[.string q] (.string q) (by rintro _ ⟨⟩; rfl) (fun b W h => by simp [go_sem, fin, Act.eval]) (fun b W h => (cl3 W).mono fun e w' ⟨h1, h2⟩ => ⟨h1, h.on h2⟩), ?_⟩
    refine ⟨dk.q (by decide) (.agg #[.string x, .string k, .string q]) (by rintro _ ⟨⟩; rfl) (fun b W h => by simp [execOp, go_sem, fin, Act.eval]), ?_⟩
    refine ⟨dk.last rfl (fun W h => ?_), trivial⟩
    obtain ⟨h1, h2, h3⟩ := h
    have c0 : W.cell? ⟨w.heap.size + 1, 0, none⟩ = some (.string ByteArray.empty) := bcell h3 rfl
    have c1 : W.cell? ⟨w.heap.size + 1, 1, none⟩ = some (.string ByteArray.empty) := bcell h3 rfl
    have c2 : W.cell? ⟨w.heap.size + 1, 2, none⟩ = some (.string ByteArray.empty) := bcell h3 rfl
    have f0 := bfree h3 0
    have f1 := bfree h3 1
    have f2 := bfree h3 2
    refine ⟨((W.setCell ⟨w.heap.size + 1, 0, none⟩ (.string x)).setCell ⟨w.heap.size + 1, 1, none⟩ (.string k)).setCell ⟨w.heap.size + 1, 2, none⟩ (.string q), by simp [execOp, go_sem, fin, Act.eval, c0, c1, c2, f0, f1, f2], ?_, ?_, ?_⟩
    · exact ((h1.setCell (by show w.heap.size ≤ w.heap.size + 1; omega) _).setCell (by show w.heap.size ≤ w.heap.size + 1; omega) _).setCell (by show w.heap.size ≤ w.heap.size + 1; omega) _
    · exact boff (boff (boff h2 _ _ _ (by omega)) _ _ _ (by omega)) _ _ _ (by omega)
    · exact bset (bset (bset h3 0 (.string x)) 1 (.string k)) 2 (.string q)
  case fin =>
    intro L W hL hC
    have hC' : D w x k q true W := by
      have := hL 10 (by decide)
      unfold dk.Cl at hC
      rw [this] at hC
      exact hC
    obtain ⟨h1, h2, h3⟩ := hC'
    have c0 : W.cell? ⟨w.heap.size + 1, 0, none⟩ = some (.string x) := bcell h3 rfl
    have c1 : W.cell? ⟨w.heap.size + 1, 1, none⟩ = some (.string k) := bcell h3 rfl
    have c2 : W.cell? ⟨w.heap.size + 1, 2, none⟩ = some (.string q) := bcell h3 rfl
    unfold fin
    go_wp2
    refine bodyPost_ret (v := .agg #[.string x, .string k, .string q]) (by simp [results, Tryz.results38, go_sem, c0, c1, c2]) rfl ⟨rfl, h1⟩
end Go.Proofs.YtnooibeohdfcmaaGreatDoor.cb
