/- The program's GetBatch: the loop, and the answer. -/
import Derived.Test.YtjnfljipomjcjaaGreatDoorRk11
import Derived.Test.YtjnfljipomjcjaaGreatDoorRk04

/- The program's GetBatch: the walk where the number of pairs is none; what stands while it reads. -/
namespace Go.Proofs.YtjnfljipomjcjaaGreatDoor.gim
open Go.ChangeShapes Go.WideShapes Go.ChangeAt Go.RowKit Go.Proofs.YtjnfljipomjcjaaGreatDoor.fl Go.Proofs.YtjnfljipomjcjaaGreatDoor.fo Go.Proofs.YtjnfljipomjcjaaGreatDoor.gbp Go.Proofs.YtjnfljipomjcjaaGreatDoor.brd Go.Proofs.YtjnfljipomjcjaaGreatDoor.asf
set_option linter.unusedVariables false

/-- the world in which the reader begins -/
def W0 (s : ByteArray) (w : World) : World := ((w.alloc (.cells #[.slice none 0 0] 24)).alloc (.cells #[.bool false] 4)).alloc (.cells #[.string s, .int .i64 0] 68)

/-- what stands while it reads: the answer's two variables -/
structure Sb (w : World) (v : Value) (W : World) : Prop where
  bel : Below w.heap.size w W
  b : W.heap[w.heap.size]? = some (.cells #[v] 24 (0, 0))
  o : W.heap[w.heap.size + 1]? = some (.cells #[.bool false] 4 (0, 0))
theorem Sb.tr {w W W' : World} {v : Value} (h : Sb w v W) (ht : Tr (w.heap.size + 1 + 1) W W') : Sb w v W' :=
  ⟨h.bel.trans (ht.below h.bel.size (fun k hk => by omega)), (ht.block _ (Array.getElem?_eq_some_iff.1 h.b).1 (by omega)).trans h.b, (ht.block _ (Array.getElem?_eq_some_iff.1 h.o).1 (by omega)).trans h.o⟩
theorem Sb.et {w W : World} {v : Value} (h : Sb w v W) (hg : ET w) : ET W := by
  unfold ET
  rw [h.bel.cell hg.lt]
  exact hg
theorem new_at (w : World) (o : Obj) (k : Nat) (hk : k = w.heap.size) : (w.alloc o).heap[k]? = some o := by
  subst hk
  show (w.heap.push o)[w.heap.size]? = some o
  simp
theorem sb_0 (s : ByteArray) (w : World) : Sb w (.slice none 0 0) (W0 s w) := by
  refine ⟨?_, ?_, ?_⟩
  · exact (((Below.refl _ _).alloc (Nat.le_refl _) _).alloc (by simp) _).alloc (by simp; omega) _
  · unfold W0
    rw [Below.heap_alloc _ _ _ (by simp; omega), Below.heap_alloc _ _ _ (by simp)]
    exact new_at _ _ _ rfl
  · unfold W0
    rw [Below.heap_alloc _ _ _ (by simp)]
    exact new_at _ _ _ (by simp)
theorem rb_0 (s : ByteArray) (w : World) : RB (W0 s w) (w.heap.size + 1 + 1) s 0 := by
  unfold RB W0
  exact new_at _ _ _ (by simp)
/-- what the closure leaves behind a fault -/
theorem sb_left {w W w1 : World} {v : Value} (h : Sb w v W) (hb : Below W.heap.size W w1) :
    ((w1.setCell ⟨w.heap.size, 0, none⟩ (.slice none 0 0)).setCell ⟨w.heap.size + 1, 0, none⟩ (.bool false)).cell? ⟨w.heap.size, 0, none⟩ = some (.slice none 0 0) ∧
    ((w1.setCell ⟨w.heap.size, 0, none⟩ (.slice none 0 0)).setCell ⟨w.heap.size + 1, 0, none⟩ (.bool false)).cell? ⟨w.heap.size + 1, 0, none⟩ = some (.bool false) ∧
    Below w.heap.size w ((w1.setCell ⟨w.heap.size, 0, none⟩ (.slice none 0 0)).setCell ⟨w.heap.size + 1, 0, none⟩ (.bool false)) := by
  have b1 := bstay h.b hb (Array.getElem?_eq_some_iff.1 h.b).1
  have o1 := bstay h.o hb (Array.getElem?_eq_some_iff.1 h.o).1
  have b2 := bset b1 0 (.slice none 0 0)
  have o2 : (w1.setCell ⟨w.heap.size, 0, none⟩ (.slice none 0 0)).heap[w.heap.size + 1]? = some (.cells #[.bool false] 4 (0, 0)) := by
    rw [Below.heap_setCell _ _ _ _ (by simp)]
    exact o1
  have o3 := bset o2 0 (.bool false)
  have b3 : ((w1.setCell ⟨w.heap.size, 0, none⟩ (.slice none 0 0)).setCell ⟨w.heap.size + 1, 0, none⟩ (.bool false)).heap[w.heap.size]? = some (.cells #[.slice none 0 0] 24 (0, 0)) := by
    rw [Below.heap_setCell _ _ _ _ (by simp)]
    exact b2
  refine ⟨bcell b3 rfl, bcell o3 rfl, ?_⟩
  exact ((h.bel.trans (hb.mono h.bel.size)).setCell (Nat.le_refl _) _).setCell (Nat.le_succ _) _

set_option maxRecDepth 100000 in
set_option maxHeartbeats 1000000 in
theorem impl_bad (s : ByteArray) (w : World) (hs : s.size ≤ 1048576) (hg : ET w) (hc : (gi.okAt s 0 1 && decide (gi.num s 0 1 ≤ 60)) = false) :
    Calls Tryz.prog 11 #[.string s] w fun e w' => e = .returned (.tuple #[.slice none 0 0, .bool false]) ∧ Below w.heap.size w w' := by
  have hmf : ∀ (fn : Fn) (first cap : Array Value) (w : World), (Instr.makeFunc fn first cap).run Tryz.prog w = .ok (.func fn first cap) w := fun _ _ _ _ => rfl
  have hn := number_bad (w.heap.size + 1 + 1) s 0 60 (W0 s w) hs (rb_0 s w) (by omega) (by omega) (by omega) hc
  go_enter_defers Tryz.func11, Tryz.ntmps11
  go_wp2_with (go_at_call 38; fail)
  refine hn.mono ?_
  rintro e W ⟨⟨j, rfl⟩, ht⟩
  have hS := (sb_0 s w).tr ht
  clear hn ht
  go_wp2
  refine leaves_cons (f := 36) (args := #[.pointer (some ⟨w.heap.size, 0, none⟩), .pointer (some ⟨w.heap.size + 1, 0, none⟩)]) (by simp) (by simp [go_sem]) ?_
  refine (catch_hit w.heap.size (w.heap.size + 1) j _ _ W (hS.et hg) (bcell hS.b rfl) (bfree hS.b 0) (bcell hS.o rfl) (bfree hS.o 0) (by omega)).mono ?_
  rintro e u' w'' ⟨rfl, rfl, w1, hb, rfl⟩
  obtain ⟨h1, h2, h3⟩ := sb_left hS hb
  simp [Leaves, settle, results, Tryz.results11, go_sem, h1, h2]
  exact h3
end Go.Proofs.YtjnfljipomjcjaaGreatDoor.gim

/- The program's GetBatch: one pair more, in memory. -/
namespace Go.Proofs.YtjnfljipomjcjaaGreatDoor.gim
open Go.ChangeShapes Go.WideShapes Go.ChangeAt Go.RowKit Go.Proofs.YtjnfljipomjcjaaGreatDoor.fl Go.Proofs.YtjnfljipomjcjaaGreatDoor.fo Go.Proofs.YtjnfljipomjcjaaGreatDoor.gbp Go.Proofs.YtjnfljipomjcjaaGreatDoor.brd Go.Proofs.YtjnfljipomjcjaaGreatDoor.asf
set_option linter.unusedVariables false

/-- what stands when k pairs are read -/
structure Sr (s : ByteArray) (w : World) (n k : Nat) (i : Int) (l : List flP.Pr) (v : Value) (W : World) : Prop where
  sb : Sb w v W
  rb : RB W (w.heap.size + 1 + 1) s i
  row : W.ownsRow (w.heap.size + 1 + 1 + 1) 61 3 v l.length (l.flatMap flP.c)
  len : l.length = k
  left : gbp.Left s n l (n - k) i
  lo : 0 ≤ i
  hi : i ≤ s.size
  ok : ∀ e ∈ l, bo.okP e

theorem sr_0 {s : ByteArray} {w W : World} {n : Nat} (hS : Sb w (.slice none 0 0) W) (hr : RB W (w.heap.size + 1 + 1) s (0 + 1)) (h1 : 1 ≤ s.size) : Sr s w n 0 (0 + 1) [] (.slice none 0 0) W :=
  ⟨hS, hr, World.ownsRow_nil _ _ _ _, rfl, left_0 s n, by omega, by omega, fun e he => by cases he⟩

set_option maxRecDepth 100000 in
theorem one_more {s : ByteArray} {w W W1 : World} {n k : Nat} {i j : Int} {l : List flP.Pr} {v : Value} {p : flP.Pr} (hs : s.size ≤ 1048576) (h : Sr s w n k i l v W) (hk : k < n) (hn : n ≤ 60) (ht : Tr (w.heap.size + 1 + 1) W W1) (hr : RB W1 (w.heap.size + 1 + 1) s j) (hp : stp s i = some (p, j)) (hok : bo.okP p) :
    ∃ v' Y, (Builtin.append_ #[24, 24] 24 #[v, .slice (some ⟨W1.heap.size, 0, none⟩) 1 1]).run Tryz.prog (W1.alloc (.cells #[.string p.k, .string p.v, .bool p.g] 61)) = .ok v' Y ∧
      Y.cell? ⟨w.heap.size, 0, none⟩ = some v ∧ Y.frozen? ⟨w.heap.size, 0, none⟩ = false ∧ Sr s w n (k + 1) j (l ++ [p]) v' (Y.setCell ⟨w.heap.size, 0, none⟩ v') := by
  obtain ⟨i0, hi, hz0, hz1, hz2⟩ := gbs.infoP
  have hll : l.length ≤ 60 := by have := h.len; omega
  have hrl := (Array.getElem?_eq_some_iff.1 hr).1
  have hrow1 : W1.ownsRow (w.heap.size + 1 + 1 + 1) 61 3 v l.length (l.flatMap flP.c) := by
    refine h.row.kept (row := some (w.heap.size + 1 + 1)) ⟨ht.os, ht.tape, ht.output, ht.size, fun a ha hne => ht.block a ha (fun hc => hne (by rw [hc]))⟩ ?_
    cases hv : v.ownBlock with
    | none => exact .inl rfl
    | some g =>
      refine .inr (fun hc => ?_)
      have := (h.row.lt g hv).1
      injection hc with hc
      omega
  have hs1 := h.sb.tr ht
  obtain ⟨X, hX⟩ : ∃ X, W1.alloc (.cells #[.string p.k, .string p.v, .bool p.g] 61) = X := ⟨_, rfl⟩
  have hXs : X.heap.size = W1.heap.size + 1 := by rw [← hX]; simp
  have hxb : Below W1.heap.size W1 X := by rw [← hX]; exact (Below.refl _ _).alloc (Nat.le_refl _) _
  have hrowX : X.ownsRow (w.heap.size + 1 + 1 + 1) 61 3 v l.length (l.flatMap flP.c) := by rw [← hX]; exact hrow1.alloc _
  have hnew : X.heap[W1.heap.size]? = some (.cells #[.string p.k, .string p.v, .bool p.g] 61 (0, 0)) := by rw [← hX]; exact bnew W1 _ _
  have hbX := bstay hs1.b hxb (Array.getElem?_eq_some_iff.1 hs1.b).1
  have hoX := bstay hs1.o hxb (Array.getElem?_eq_some_iff.1 hs1.o).1
  have hrX : RB X (w.heap.size + 1 + 1) s j := hr.on hxb
  obtain ⟨v', Y, hrun, ho, hgr, _, _⟩ := run_append_own_at (P := Tryz.prog) X (w.heap.size + 1 + 1 + 1) 24 24 61 i0 (.agg #[.string ByteArray.empty, .string ByteArray.empty, .bool false]) 3 40 Tryz.underlying24 hi hz0 hz1 hz2 rfl (by decide) v l.length (l.flatMap flP.c) hrowX ⟨W1.heap.size, 0, none⟩ 1 1 [.string p.k, .string p.v, .bool p.g] rfl (fun a u hu => by rw [gbs.cpadd]; exact bcell hnew (by simpa using hu)) (by intro u hu; simp at hu; rcases hu with rfl | rfl | rfl <;> rfl) (by unfold maxLen; omega) (by omega) (by omega)
  have hne : ∀ a, a ≤ w.heap.size + 1 + 1 → some a ≠ v.ownBlock := by
    intro a ha hc
    have := (h.row.lt a hc.symm).1
    omega
  have hbY : Y.heap[w.heap.size]? = _ := (hgr.block _ (by omega) (hne _ (by omega))).trans hbX
  have hoY : Y.heap[w.heap.size + 1]? = _ := (hgr.block _ (by omega) (hne _ (by omega))).trans hoX
  have hrY : Y.heap[w.heap.size + 1 + 1]? = _ := (hgr.block _ (by omega) (hne _ (by omega))).trans hrX
  have hin := stp_in hs hp
  rw [← hX] at hrun
  have hbelX : Below w.heap.size w X := hs1.bel.trans (hxb.mono hs1.bel.size)
  have hbelY : Below w.heap.size w Y := hbelX.grown hgr hbelX.size (fun b hb => by have := (h.row.lt b hb).1; omega)
  refine ⟨v', Y, hrun, bcell hbY rfl, bfree hbY 0, ⟨⟨hbelY.setCell (Nat.le_refl _) _, bset hbY 0 v', ?_⟩, ?_, ?_, ?_, ?_, hin.1, hin.2.1, ?_⟩⟩
  · rw [Below.heap_setCell _ _ _ _ (by simp)]; exact hoY
  · unfold RB
    rw [Below.heap_setCell _ _ _ _ (by simp; omega)]; exact hrY
  · have h1 : (Y.setCell ⟨w.heap.size, 0, none⟩ v').ownsRow (w.heap.size + 1 + 1 + 1) 61 3 v' (l.length + 1) (l.flatMap flP.c ++ [.string p.k, .string p.v, .bool p.g]) := by
      have hbs : Tn Y (Y.setCell ⟨w.heap.size, 0, none⟩ v') (fun a => a = w.heap.size) := Tn.set (Tn.refl Y (fun a => a = w.heap.size)) (S := fun a => a = w.heap.size) rfl 0 v'
      refine ho.kept (row := some w.heap.size) ⟨hbs.os, hbs.tape, hbs.output, hbs.size, fun a ha hne => hbs.block a ha (fun hc => hne (by rw [hc]))⟩ ?_
      cases hv : v'.ownBlock with
      | none => exact .inl rfl
      | some g =>
        refine .inr (fun hc => ?_)
        have := (ho.lt g hv).1
        injection hc with hc
        omega
    rw [List.length_append, List.flatMap_append]
    simpa [flP.c] using h1
  · rw [List.length_append, h.len]; rfl
  · have h1 := left_yes (by have := h.left; rw [show n - k = (n - k - 1) + 1 by omega] at this; exact this) hp
    rw [show n - (k + 1) = n - k - 1 by omega]
    exact h1
  · intro e he
    rcases List.mem_append.1 he with he | he
    · exact h.ok e he
    · simp at he
      subst he
      exact hok
end Go.Proofs.YtjnfljipomjcjaaGreatDoor.gim

/- The program's GetBatch: the loop, and the answer. -/
namespace Go.Proofs.YtjnfljipomjcjaaGreatDoor.gim
open Go.ChangeShapes Go.WideShapes Go.ChangeAt Go.RowKit Go.Proofs.YtjnfljipomjcjaaGreatDoor.fl Go.Proofs.YtjnfljipomjcjaaGreatDoor.fo Go.Proofs.YtjnfljipomjcjaaGreatDoor.gbp Go.Proofs.YtjnfljipomjcjaaGreatDoor.brd Go.Proofs.YtjnfljipomjcjaaGreatDoor.asf
set_option linter.unusedVariables false
theorem row_at {W W1 : World} {B b m n : Nat} {T : TypeId} {v : Value} {xs : List Value} (h : W.ownsRow B T m v n xs) (hB : b < B) (ht : Tn W W1 (fun a => a = b)) : W1.ownsRow B T m v n xs := by
  refine h.kept (row := some b) ⟨ht.os, ht.tape, ht.output, ht.size, fun a ha hne => ht.block a ha (fun hc => hne (by rw [hc]))⟩ ?_
  cases hv : v.ownBlock with
  | none => exact .inl rfl
  | some g =>
    refine .inr (fun hc => ?_)
    have := (h.lt g hv).1
    injection hc with hc
    omega
theorem sb_done {w W : World} {v : Value} {m n : Nat} {T : TypeId} {xs : List Value} (h : Sb w v W) (hr : W.ownsRow (w.heap.size + 1 + 1 + 1) T m v n xs) :
    ((W.setCell ⟨w.heap.size, 0, none⟩ v).setCell ⟨w.heap.size + 1, 0, none⟩ (.bool true)).cell? ⟨w.heap.size, 0, none⟩ = some v ∧
    ((W.setCell ⟨w.heap.size, 0, none⟩ v).setCell ⟨w.heap.size + 1, 0, none⟩ (.bool true)).cell? ⟨w.heap.size + 1, 0, none⟩ = some (.bool true) ∧
    Below w.heap.size w ((W.setCell ⟨w.heap.size, 0, none⟩ v).setCell ⟨w.heap.size + 1, 0, none⟩ (.bool true)) ∧
    ((W.setCell ⟨w.heap.size, 0, none⟩ v).setCell ⟨w.heap.size + 1, 0, none⟩ (.bool true)).ownsRow w.heap.size T m v n xs := by
  have b2 := bset h.b 0 v
  have o2 : (W.setCell ⟨w.heap.size, 0, none⟩ v).heap[w.heap.size + 1]? = some (.cells #[.bool false] 4 (0, 0)) := by
    rw [Below.heap_setCell _ _ _ _ (by simp)]
    exact h.o
  have o3 := bset o2 0 (.bool true)
  have b3 : ((W.setCell ⟨w.heap.size, 0, none⟩ v).setCell ⟨w.heap.size + 1, 0, none⟩ (.bool true)).heap[w.heap.size]? = some (.cells #[v] 24 (0, 0)) := by
    rw [Below.heap_setCell _ _ _ _ (by simp)]
    exact b2
  refine ⟨bcell b3 rfl, bcell o3 rfl, (h.bel.setCell (Nat.le_refl _) _).setCell (Nat.le_succ _) _, ?_⟩
  have t1 : Tn W (W.setCell ⟨w.heap.size, 0, none⟩ v) (fun a => a = w.heap.size) := Tn.set (Tn.refl W (fun a => a = w.heap.size)) (S := fun a => a = w.heap.size) rfl 0 v
  have t2 : Tn (W.setCell ⟨w.heap.size, 0, none⟩ v) ((W.setCell ⟨w.heap.size, 0, none⟩ v).setCell ⟨w.heap.size + 1, 0, none⟩ (.bool true)) (fun a => a = w.heap.size + 1) := Tn.set (Tn.refl _ (fun a => a = w.heap.size + 1)) (S := fun a => a = w.heap.size + 1) rfl 0 _
  have r2 := row_at (b := w.heap.size + 1) (row_at (b := w.heap.size) hr (by omega) t1) (by omega) t2
  refine ⟨r2.1, ?_⟩
  rcases r2.2 with h0 | ⟨g, c, cur, e1, e2, e3⟩
  · exact .inl h0
  · exact .inr ⟨g, c, cur, e1, by omega, e3⟩
theorem got_stop {s : ByteArray} {n k : Nat} {i : Int} {l : List flP.Pr} (hN : (gi.num s 0 1).toNat = n) (hL : gbp.Left s n l (n - k) i) (hk : k < n) (hbad : ¬ ∃ p j, stp s i = some (p, j) ∧ bo.okP p) : got s = none := by
  rw [show n - k = (n - k - 1) + 1 by omega] at hL
  cases hst : stp s i with
  | none => exact gbs.got_bad2 (by rw [hN]; exact left_no hL hst)
  | some x =>
    obtain ⟨p, j⟩ := x
    have hno : ¬ bo.okP p := fun h => hbad ⟨p, j, hst, h⟩
    have h1 := left_yes hL hst
    unfold gbp.Left at h1
    cases hh : rn s (n - k - 1) j with
    | none =>
      rw [hh] at h1
      exact gbs.got_bad2 (by rw [hN]; exact h1)
    | some y =>
      obtain ⟨m, e⟩ := y
      rw [hh] at h1
      refine gbs.got_bad3 (by rw [hN]; exact h1) ?_
      have hf : bo.okb (l ++ [p] ++ m) = false := by
        cases h : bo.okb (l ++ [p] ++ m) with
        | false => rfl
        | true => exact absurd (((bo.okb_iff _).1 h).2 l.length p (by simp)) hno
      rw [hf]
      simp
set_option maxRecDepth 100000 in
set_option maxHeartbeats 1000000 in
theorem impl_run (s : ByteArray) (w : World) (hs : s.size ≤ 1048576) (hg : ET w) (ha : gi.okAt s 0 1 = true) (n : Nat) (hn : gi.num s 0 1 = n) (hn60 : n ≤ 60) :
    Calls Tryz.prog 11 #[.string s] w fun e w' => ∃ v, e = .returned (.tuple #[v, .bool (gotB s)]) ∧ w'.ownsRow w.heap.size 61 3 v (gotL s).length ((gotL s).flatMap flP.c) ∧ Below w.heap.size w w' := by
  have hmf : ∀ (fn : Fn) (first cap : Array Value) (w : World), (Instr.makeFunc fn first cap).run Tryz.prog w = .ok (.func fn first cap) w := fun _ _ _ _ => rfl
  have hc := number_run (w.heap.size + 1 + 1) s 0 60 (W0 s w) hs (rb_0 s w) (by omega) ha (by omega)
  rw [hn] at hc
  have hin := at_in ha
  have H0 : Hid ((gi.okAt s 0 1 && decide (gi.num s 0 1 ≤ 60)) = true) := by unfold Hid; rw [ha, hn]; simp; omega
  have HN : Hid ((gi.num s 0 1).toNat = n) := by unfold Hid; rw [hn]; rfl
  go_enter_defers Tryz.func11, Tryz.ntmps11
  go_wp2_with (go_at_call 38; fail)
  refine hc.mono ?_
  rintro e W ⟨rfl, hr, ht⟩
  have HS0 : Hid (Sr s w n 0 (0 + 1) [] (.slice none 0 0) W) := sr_0 ((sb_0 s w).tr ht) hr (by omega)
  clear hc ht hr hin ha hn
  go_wp2
  go_loopw [9] (fun x wr => ∃ (k : Nat) (i : Int) (l : List flP.Pr) (v : Value), k ≤ n ∧ x = .int .i64 k ∧ Hid (Sr s w n k i l v wr)) (fun x _ => n - (intOf x).toNat)
  case atStart => exact ⟨0, 0 + 1, [], _, Nat.zero_le _, rfl, HS0⟩
  case round =>
    obtain ⟨k, i, l, v, hk, rfl, hst⟩ := hrel
    clear HS0
    by_cases hkn : k < n
    · have i2 : (k : Int) < (n : Int) := by omega
      have c0 : wr.cell? ⟨w.heap.size, 0, none⟩ = some v := bcell hst.out.sb.b rfl
      have hpr := pair_run (w.heap.size + 1 + 1) s i wr.drew hs hst.out.rb hst.out.lo hst.out.hi
      by_cases hgood : ∃ p j, stp s i = some (p, j) ∧ bo.okP p
      · obtain ⟨p, j, hp, hok⟩ := hgood
        have hpr2 : Calls Tryz.prog 39 #[.pointer (some ⟨w.heap.size + 1 + 1, 0, none⟩)] wr.drew fun e w' => e = .returned (.agg #[.string p.k, .string p.v, .bool p.g]) ∧ RB w' (w.heap.size + 1 + 1) s j ∧ Tr (w.heap.size + 1 + 1) wr w' := by
          refine hpr.mono ?_
          rintro e w' (⟨p', j', h1, h2, h3, h4, h5⟩ | ⟨h1, h2, h3⟩)
          · rw [hp] at h1
            cases h1
            exact ⟨h3, h4, (tr_drew _ _).trans h5⟩
          · exact absurd hok (h1 p j hp)
        have HM : Hid (∀ w1, RB w1 (w.heap.size + 1 + 1) s j → Tr (w.heap.size + 1 + 1) wr w1 → ∃ (g cp : Nat) (Y : World), (Builtin.append_ #[24, 24] 24 #[v, .slice (some ⟨w1.heap.size, 0, none⟩) 1 1]).run Tryz.prog (w1.alloc (.cells #[.string p.k, .string p.v, .bool p.g] 61)) = .ok (.slice (some ⟨g, 0, none⟩) (l ++ [p]).length cp) Y ∧ Y.cell? ⟨w.heap.size, 0, none⟩ = some v ∧ Y.frozen? ⟨w.heap.size, 0, none⟩ = false ∧ w1.cell? ⟨w.heap.size, 0, none⟩ = some v ∧ (w1.alloc (.cells #[.string p.k, .string p.v, .bool p.g] 61)).cell? ⟨w.heap.size, 0, none⟩ = some v ∧ Hid (Sr s w n (k + 1) j (l ++ [p]) (.slice (some ⟨g, 0, none⟩) (l ++ [p]).length cp) (Y.setCell ⟨w.heap.size, 0, none⟩ (.slice (some ⟨g, 0, none⟩) (l ++ [p]).length cp)))) := by
          intro w1 h1 h2
          obtain ⟨v', Y, a1, a2, a3, a4⟩ := one_more hs hst.out hkn hn60 h2 h1 hp hok
          rcases a4.row.2 with ⟨e, h0⟩ | ⟨g, cap, cur, e, _⟩
          · simp at h0
          · subst e
            exact ⟨g, cap, Y, a1, a2, a3, bcell (hst.out.sb.tr h2).b rfl, bcell (bold (hst.out.sb.tr h2).b _) rfl, a4⟩
        clear hpr hst hp hok
        go_wp2
        go_region_with (go_at_call 39; refine hpr2.mono ?_; rintro e w1 ⟨rfl, hr1, ht1⟩; obtain ⟨g, cp, Y, hrun, y0, y1, c1, c2, HN1⟩ := HM.out w1 hr1 ht1; clear hr1 ht1; obtain ⟨ln, hln⟩ : ∃ ln, (l ++ [p]).length = ln := ⟨_, rfl⟩; rw [hln] at hrun HN1; clear hln; simp [go_sem] at hrun)
        all_goals go_wp2
        all_goals go_roundw
        all_goals first | exact ⟨k + 1, j, _, _, by omega, by go_num, HN1⟩ | (simp [intOf]; omega)
      · have hpr2 : Calls Tryz.prog 39 #[.pointer (some ⟨w.heap.size + 1 + 1, 0, none⟩)] wr.drew fun e w' => Pk e ∧ Tr (w.heap.size + 1 + 1) wr w' := by
          refine hpr.mono ?_
          rintro e w' (⟨p', j', h1, h2, h3, h4, h5⟩ | ⟨h1, h2, h3⟩)
          · exact absurd ⟨p', j', h1, h2⟩ hgood
          · exact ⟨h2, (tr_drew _ _).trans h3⟩
        clear hpr
        go_wp2
        have HG : Hid (gotL s = [] ∧ gotB s = false) := got_none (got_stop HN.out hst.out.left hkn hgood)
        have HL : Hid (∀ w1, Tr (w.heap.size + 1 + 1) wr w1 → Sb w v w1) := fun w1 h1 => hst.out.sb.tr h1
        refine wp_region_any (by kernel_rfl) ?_
        change wpAny _ _ _ _ _ _ _ (World.drew _)
        refine wpAny_ready (rs := [0, 1]) (by kernel_rfl) (by simp) ?_
        refine AllReady.cons rfl (fun K hK => ?_) ?_
        · go_simp
          refine hK _ _ ?_
          clear hK K
          refine wpAny_ready (rs := [1]) (by kernel_rfl) (by simp) ?_
          refine AllReady.cons rfl (fun K hK => ?_) AllReady.nil
          go_simp
          refine hpr2.mono ?_
          rintro e w1 ⟨⟨jj, rfl⟩, ht1⟩
          have hS := HL.out w1 ht1
          go_wp2
          refine leaves_cons (f := 36) (args := #[.pointer (some ⟨w.heap.size, 0, none⟩), .pointer (some ⟨w.heap.size + 1, 0, none⟩)]) (by simp) (by simp [go_sem]) ?_
          refine (catch_hit w.heap.size (w.heap.size + 1) jj _ _ w1 (hS.et hg) (bcell hS.b rfl) (bfree hS.b 0) (bcell hS.o rfl) (bfree hS.o 0) (by omega)).mono ?_
          rintro e u' w'' ⟨rfl, rfl, w2, hb, rfl⟩
          obtain ⟨h1, h2, h3⟩ := sb_left hS hb
          rw [HG.out.1, HG.out.2]
          simp [Leaves, settle, results, Tryz.results11, go_sem, h1, h2]
          exact ⟨World.ownsRow_nil _ _ _ _, h3⟩
        · refine AllReady.cons rfl (fun K hK => ?_) AllReady.nil
          go_simp
          refine hpr2.mono ?_
          rintro e w1 ⟨⟨jj, rfl⟩, ht1⟩
          have hS := HL.out w1 ht1
          go_wp2
          refine leaves_cons (f := 36) (args := #[.pointer (some ⟨w.heap.size, 0, none⟩), .pointer (some ⟨w.heap.size + 1, 0, none⟩)]) (by simp) (by simp [go_sem]) ?_
          refine (catch_hit w.heap.size (w.heap.size + 1) jj _ _ w1 (hS.et hg) (bcell hS.b rfl) (bfree hS.b 0) (bcell hS.o rfl) (bfree hS.o 0) (by omega)).mono ?_
          rintro e u' w'' ⟨rfl, rfl, w2, hb, rfl⟩
          obtain ⟨h1, h2, h3⟩ := sb_left hS hb
          rw [HG.out.1, HG.out.2]
          simp [Leaves, settle, results, Tryz.results11, go_sem, h1, h2]
          exact ⟨World.ownsRow_nil _ _ _ _, h3⟩
    · obtain rfl : k = n := by omega
      have hrn := left_end (by have := hst.out.left; rw [Nat.sub_self] at this; exact this)
      by_cases he : i = (s.size : Int)
      · have HG : Hid (gotL s = l ∧ gotB s = true) := got_some (gbs.got_good H0.out (by rw [HN.out]; exact hrn) (by
          rw [(bo.okb_iff l).2 ⟨by have := hst.out.len; omega, fun a e h => hst.out.ok e (List.mem_of_getElem? h)⟩]
          simp [he]))
        have hen := end_run (w.heap.size + 1 + 1) s i wr hst.out.rb he
        obtain ⟨va, vc, hv⟩ : ∃ va vc, v = .slice va l.length vc := by
          rcases hst.out.row.2 with ⟨e, h0⟩ | ⟨g, cap, cur, e, _⟩
          · exact ⟨none, 0, by rw [e, h0]⟩
          · exact ⟨_, _, e⟩
        subst hv
        have HL : Hid (∀ w1, Tr (w.heap.size + 1 + 1) wr w1 → Sb w (.slice va l.length vc) w1 ∧ w1.ownsRow (w.heap.size + 1 + 1 + 1) 61 3 (.slice va l.length vc) l.length (l.flatMap flP.c)) := fun w1 h1 => ⟨hst.out.sb.tr h1, row_at hst.out.row (by omega) h1⟩
        clear hrn he hst
        go_wp2_with (go_at_call 40; fail)
        refine hen.mono ?_
        rintro e w1 ⟨rfl, ht1⟩
        have HS : Hid (Sb w (.slice va l.length vc) w1 ∧ w1.ownsRow (w.heap.size + 1 + 1 + 1) 61 3 (.slice va l.length vc) l.length (l.flatMap flP.c)) := HL.out w1 ht1
        clear hen HL ht1
        have b0 : w1.cell? ⟨w.heap.size, 0, none⟩ = some (.slice va l.length vc) := bcell HS.out.1.b rfl
        have b1 : w1.frozen? ⟨w.heap.size, 0, none⟩ = false := bfree HS.out.1.b 0
        have o0 : w1.cell? ⟨w.heap.size + 1, 0, none⟩ = some (.bool false) := bcell HS.out.1.o rfl
        have o1 : w1.frozen? ⟨w.heap.size + 1, 0, none⟩ = false := bfree HS.out.1.o 0
        go_wp2
        refine leaves_cons (f := 36) (args := #[.pointer (some ⟨w.heap.size, 0, none⟩), .pointer (some ⟨w.heap.size + 1, 0, none⟩)]) (by simp) (by simp [go_sem]) ?_
        refine (catch_idle ⟨w.heap.size, 0, none⟩ ⟨w.heap.size + 1, 0, none⟩ _).mono ?_
        rintro e u' w'' ⟨rfl, rfl, rfl⟩
        obtain ⟨h1, h2, h3, h4⟩ := sb_done HS.out.1 HS.out.2
        rw [HG.out.1, HG.out.2]
        simp only [Leaves, settle]
        refine ⟨.tuple #[.slice va l.length vc, .bool true], by simp [results, Tryz.results11, go_sem, h1, h2], _, rfl, h4, h3⟩
      · have HG : Hid (gotL s = [] ∧ gotB s = false) := got_none (gbs.got_bad3 (by rw [HN.out]; exact hrn) (by simp [he]))
        have hen := end_bad (w.heap.size + 1 + 1) s i wr hst.out.rb he
        go_wp2_with (go_at_call 40; fail)
        refine hen.mono ?_
        rintro e w1 ⟨⟨jj, rfl⟩, ht1⟩
        have hS := hst.out.sb.tr ht1
        go_wp2
        refine leaves_cons (f := 36) (args := #[.pointer (some ⟨w.heap.size, 0, none⟩), .pointer (some ⟨w.heap.size + 1, 0, none⟩)]) (by simp) (by simp [go_sem]) ?_
        refine (catch_hit w.heap.size (w.heap.size + 1) jj _ _ w1 (hS.et hg) (bcell hS.b rfl) (bfree hS.b 0) (bcell hS.o rfl) (bfree hS.o 0) (by omega)).mono ?_
        rintro e u' w'' ⟨rfl, rfl, w2, hb, rfl⟩
        obtain ⟨h1, h2, h3⟩ := sb_left hS hb
        rw [HG.out.1, HG.out.2]
        simp [Leaves, settle, results, Tryz.results11, go_sem, h1, h2]
        exact ⟨World.ownsRow_nil _ _ _ _, h3⟩

/-- the program's GetBatch, at every text -/
theorem impl_got (s : ByteArray) (w : World) (hs : s.size ≤ 1048576) (hg : ET w) :
    Calls Tryz.prog 11 #[.string s] w fun e w' => ∃ v, e = .returned (.tuple #[v, .bool (gotB s)]) ∧ w'.ownsRow w.heap.size 61 3 v (gotL s).length ((gotL s).flatMap flP.c) ∧ Below w.heap.size w w' := by
  cases hc : (gi.okAt s 0 1 && decide (gi.num s 0 1 ≤ 60)) with
  | false =>
    refine (impl_bad s w hs hg hc).mono ?_
    rintro e w' ⟨rfl, hb⟩
    have hG := got_none (gbs.got_bad1 hc)
    rw [hG.1, hG.2]
    exact ⟨_, rfl, World.ownsRow_nil _ _ _ _, hb⟩
  | true =>
    simp only [Bool.and_eq_true, decide_eq_true_eq] at hc
    have hin := at_in hc.1
    exact impl_run s w hs hg hc.1 (gi.num s 0 1).toNat (by omega) (by omega)
end Go.Proofs.YtjnfljipomjcjaaGreatDoor.gim
