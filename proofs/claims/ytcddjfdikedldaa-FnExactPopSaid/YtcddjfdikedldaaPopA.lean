/- The specification's Pop: the first message is handed out, or a copy of the queue is; new memory alone. -/
import Derived.Test.YtcddjfdikedldaaQueueCmp
import Derived.Test.YtcddjfdikedldaaQuietIn
import Derived.Test.YtcddjfdikedldaaFlatLib
import Derived.Test.YtcddjfdikedldaaQSpecWay
import Derived.Deep.QuietTactic
import Derived.BigQuiet
import Derived.Test.YtcddjfdikedldaaDoneKit
import Derived.Test.YtcddjfdikedldaaFlatOwn
import Derived.Maps.AppendAt

/- The library's binary search among held ones that are ascending; new memory alone. -/
namespace Go.Proofs.Ytcddjfdikedldaa.sch
open Go.ChangeShapes Go.WideShapes Go.ChangeAt Go.RowKit Go.Proofs.Ytcddjfdikedldaa.fl Go.Proofs.Ytcddjfdikedldaa.qc
set_option linter.unusedVariables false

/-- held ones in a row -/
def Rh (w : World) (g : Nat) (l : List flH.Hd) : Prop := g < w.heap.size ∧ ∀ (i : Nat) (e : flH.Hd), l[i]? = some e → w.cell? ⟨g, i * 7, none⟩ = some (.int .i64 e.t) ∧ w.cell? ⟨g, i * 7 + 1, none⟩ = some (.int .i64 e.o) ∧ w.cell? ⟨g, i * 7 + 2, none⟩ = some (.int .i64 e.m.q) ∧ w.cell? ⟨g, i * 7 + 3, none⟩ = some (.string e.m.x) ∧ w.cell? ⟨g, i * 7 + 4, none⟩ = some (.string e.m.k) ∧ w.cell? ⟨g, i * 7 + 5, none⟩ = some (.string e.m.b) ∧ w.cell? ⟨g, i * 7 + 6, none⟩ = some (.bool e.m.a)
theorem Rh.below {w w' : World} {g : Nat} {l : List flH.Hd} (h : Rh w g l) (hb : Below w.heap.size w w') : Rh w' g l :=
  ⟨Nat.lt_of_lt_of_le h.1 hb.size, fun i e he => by
    obtain ⟨h0, h1, h2, h3, h4, h5, h6⟩ := h.2 i e he
    exact ⟨(hb.cell h.1).trans h0, (hb.cell h.1).trans h1, (hb.cell h.1).trans h2, (hb.cell h.1).trans h3, (hb.cell h.1).trans h4, (hb.cell h.1).trans h5, (hb.cell h.1).trans h6⟩⟩
theorem rh_of {w : World} {B g : Nat} {l : List flH.Hd} (hg : g < w.heap.size) (h : Row flH.c 7 w B (some ⟨g, 0, none⟩) l) : Rh w g l := ⟨hg, fun i e he => by
  rcases h with h0 | ⟨b', off', hh, hlt, hc⟩
  · rw [h0] at he; simp at he
  · cases hh
    have := fun j u (hj : (flH.c e)[j]? = some u) => hc i _ he j u hj
    simp only [Nat.zero_add] at this
    exact ⟨this 0 _ rfl, this 1 _ rfl, this 2 _ rfl, this 3 _ rfl, this 4 _ rfl, this 5 _ rfl, this 6 _ rfl⟩⟩
def MonH (l : List flH.Hd) (t : flH.Hd) : Prop := ∀ (i j : Nat) a b, i ≤ j → l[i]? = some a → l[j]? = some b → cmpH b t < 0 → cmpH a t < 0
structure PosH (l : List flH.Hd) (t : flH.Hd) (p : Nat) : Prop where
  le : p ≤ l.length
  lt : ∀ (i : Nat) a, i < p → l[i]? = some a → cmpH a t < 0
  ge : ∀ (i : Nat) a, p ≤ i → l[i]? = some a → 0 ≤ cmpH a t

set_option maxRecDepth 100000 in
set_option maxHeartbeats 8000000 in
theorem search_held (l : List flH.Hd) (g c : Nat) (nt no nq : Int) (nx nk nb : ByteArray) (na : Bool) (w : World) (hl : l.length ≤ 1048576) (hE : Rh w g l) (hM : MonH l ⟨nt, no, ⟨nq, nx, nk, nb, na⟩⟩) :
    Calls Try.prog 42 #[.slice (some ⟨g, 0, none⟩) l.length c, .agg #[.int .i64 nt, .int .i64 no, .int .i64 nq, .string nx, .string nk, .string nb, .bool na], .func (.func 43) #[] #[]] w fun r w' => (∃ (p : Nat) (b : Bool), r = .returned (.tuple #[.int .i64 p, .bool b]) ∧ PosH l ⟨nt, no, ⟨nq, nx, nk, nb, na⟩⟩ p ∧ (b = true ↔ ∃ a, l[p]? = some a ∧ cmpH a ⟨nt, no, ⟨nq, nx, nk, nb, na⟩⟩ = 0)) ∧ Below w.heap.size w w' := by
  have hb : Below w.heap.size w (w.alloc (.cells #[.int .i64 nt, .int .i64 no, .int .i64 nq, .string nx, .string nk, .string nb, .bool na] 66)) := (Below.refl _ _).alloc (Nat.le_refl _) _
  have HE : Hid (Rh w g l) := hE
  have HM : Hid (MonH l ⟨nt, no, ⟨nq, nx, nk, nb, na⟩⟩) := hM
  have tb := heap_alloc_new w (.cells #[.int .i64 nt, .int .i64 no, .int .i64 nq, .string nx, .string nk, .string nb, .bool na] 66)
  have hlt : w.heap.size < (w.alloc (.cells #[.int .i64 nt, .int .i64 no, .int .i64 nq, .string nx, .string nk, .string nb, .bool na] 66)).heap.size := by simp
  obtain ⟨W, hW⟩ : ∃ W, w.alloc (.cells #[.int .i64 nt, .int .i64 no, .int .i64 nq, .string nx, .string nk, .string nb, .bool na] 66) = W := ⟨_, rfl⟩
  rw [hW] at hb tb hlt
  have HTB : Hid (W.heap[w.heap.size]? = some (.cells #[.int .i64 nt, .int .i64 no, .int .i64 nq, .string nx, .string nk, .string nb, .bool na] 66 (0, 0))) := tb
  have HEW : Hid (Rh W g l) := HE.out.below hb
  clear hE hM tb
  go_enter Try.func42, Try.ntmps42
  go_wp2
  clear hW
  go_loopw [9, 10, 11] (fun v x _ wr => ∃ (i j : Nat), i ≤ j ∧ j ≤ l.length ∧ v = .int .i64 i ∧ x = .int .i64 j ∧ Hid ((∀ (t : Nat) a, t < i → l[t]? = some a → cmpH a ⟨nt, no, ⟨nq, nx, nk, nb, na⟩⟩ < 0) ∧ ∀ (t : Nat) a, j ≤ t → l[t]? = some a → 0 ≤ cmpH a ⟨nt, no, ⟨nq, nx, nk, nb, na⟩⟩) ∧ Below W.heap.size W wr) (fun v x _ _ => (intOf x).toNat - (intOf v).toNat)
  case atStart => exact ⟨0, l.length, Nat.zero_le _, Nat.le_refl _, rfl, rfl, ⟨fun t a h => by omega, fun t a h ha => by have := (List.getElem?_eq_some_iff.1 ha).1; omega⟩, Below.refl _ _⟩
  case round =>
    obtain ⟨i, j, hij, hjl, rfl, rfl, hinv, hbel⟩ := hrel
    have hbs := hbel.size
    by_cases hlt2 : i < j
    · obtain ⟨h, hh, hh1, hh2⟩ : ∃ h : Nat, ((i : Int) + (j : Int)) / 2 = (h : Int) ∧ i ≤ h ∧ h < j := ⟨(i + j) / 2, by omega, by omega, by omega⟩
      have g0 : l[h]? = some l[h] := List.getElem?_eq_getElem (by omega)
      obtain ⟨a0, a1, a2, a3, a4, a5, a6⟩ := (HEW.out.below hbel).2 h _ g0
      have t0 : wr.cell? ⟨w.heap.size, 0, none⟩ = some (.int .i64 nt) := by
        have := (hbel.block w.heap.size hlt).trans HTB.out
        simp [World.cell?, this]
      have t1 : wr.cell? ⟨w.heap.size, 1, none⟩ = some (.int .i64 no) := by
        have := (hbel.block w.heap.size hlt).trans HTB.out
        simp [World.cell?, this]
      have t2 : wr.cell? ⟨w.heap.size, 2, none⟩ = some (.int .i64 nq) := by
        have := (hbel.block w.heap.size hlt).trans HTB.out
        simp [World.cell?, this]
      have t3 : wr.cell? ⟨w.heap.size, 3, none⟩ = some (.string nx) := by
        have := (hbel.block w.heap.size hlt).trans HTB.out
        simp [World.cell?, this]
      have t4 : wr.cell? ⟨w.heap.size, 4, none⟩ = some (.string nk) := by
        have := (hbel.block w.heap.size hlt).trans HTB.out
        simp [World.cell?, this]
      have t5 : wr.cell? ⟨w.heap.size, 5, none⟩ = some (.string nb) := by
        have := (hbel.block w.heap.size hlt).trans HTB.out
        simp [World.cell?, this]
      have t6 : wr.cell? ⟨w.heap.size, 6, none⟩ = some (.bool na) := by
        have := (hbel.block w.heap.size hlt).trans HTB.out
        simp [World.cell?, this]
      have HG0 : Hid (l[h]? = some l[h]) := g0
      obtain ⟨⟨vt, vo, ⟨vq, vx, vk, vb, va⟩⟩, ha⟩ : ∃ e, l[h] = e := ⟨_, rfl⟩
      rw [ha] at a0 a1 a2 a3 a4 a5 a6 HG0
      have hcmp := qc.compare_held ⟨vt, vo, ⟨vq, vx, vk, vb, va⟩⟩ ⟨nt, no, ⟨nq, nx, nk, nb, na⟩⟩ wr.drew
      obtain ⟨z, hz⟩ : ∃ z, cmpH ⟨vt, vo, ⟨vq, vx, vk, vb, va⟩⟩ ⟨nt, no, ⟨nq, nx, nk, nb, na⟩⟩ = z := ⟨_, rfl⟩
      rw [hz] at hcmp
      have HZ : Hid (cmpH ⟨vt, vo, ⟨vq, vx, vk, vb, va⟩⟩ ⟨nt, no, ⟨nq, nx, nk, nb, na⟩⟩ = z) := hz
      have i2 : (h : Int) < (l.length : Int) := by omega
      clear g0 ha hz
      by_cases hneg : z < 0
      · have hinv2 : Hid ((∀ (t : Nat) a, t < h + 1 → l[t]? = some a → cmpH a ⟨nt, no, ⟨nq, nx, nk, nb, na⟩⟩ < 0) ∧ ∀ (t : Nat) a, j ≤ t → l[t]? = some a → 0 ≤ cmpH a ⟨nt, no, ⟨nq, nx, nk, nb, na⟩⟩) := ⟨fun t a ht hta => HM.out t h a _ (by omega) hta HG0.out (by show cmpH ⟨vt, vo, ⟨vq, vx, vk, vb, va⟩⟩ ⟨nt, no, ⟨nq, nx, nk, nb, na⟩⟩ < 0; rw [HZ.out]; exact hneg), hinv.out.2⟩
        go_wp2
        go_region_with (go_at_call 43; refine hcmp.mono ?_; rintro e w1 ⟨rfl, hb1⟩)
        all_goals go_wp2
        all_goals go_roundw
        all_goals first | exact ⟨h + 1, j, by omega, hjl, by go_num, rfl, hinv2, hbel.drew.trans (hb1.mono hbs)⟩ | (simp [intOf]; omega)
      · have hinv2 : Hid ((∀ (t : Nat) a, t < i → l[t]? = some a → cmpH a ⟨nt, no, ⟨nq, nx, nk, nb, na⟩⟩ < 0) ∧ ∀ (t : Nat) a, h ≤ t → l[t]? = some a → 0 ≤ cmpH a ⟨nt, no, ⟨nq, nx, nk, nb, na⟩⟩) := ⟨hinv.out.1, fun t a ht hta => by
          by_cases hn : cmpH a ⟨nt, no, ⟨nq, nx, nk, nb, na⟩⟩ < 0
          · have h3 := HM.out h t _ a ht HG0.out hta hn
            have h4 : cmpH ⟨vt, vo, ⟨vq, vx, vk, vb, va⟩⟩ ⟨nt, no, ⟨nq, nx, nk, nb, na⟩⟩ < 0 := h3
            rw [HZ.out] at h4
            exact absurd h4 hneg
          · omega⟩
        have hge : (0 : Int) ≤ z := by omega
        go_wp2
        go_region_with (go_at_call 43; refine hcmp.mono ?_; rintro e w1 ⟨rfl, hb1⟩)
        all_goals go_wp2
        all_goals go_roundw
        all_goals first | exact ⟨i, h, by omega, by omega, rfl, rfl, hinv2, hbel.drew.trans (hb1.mono hbs)⟩ | (simp [intOf]; omega)
    · obtain rfl : i = j := by omega
      have hpos : Hid (PosH l ⟨nt, no, ⟨nq, nx, nk, nb, na⟩⟩ i) := ⟨hjl, hinv.out.1, hinv.out.2⟩
      by_cases hil : i < l.length
      · have g0 : l[i]? = some l[i] := List.getElem?_eq_getElem hil
        obtain ⟨a0, a1, a2, a3, a4, a5, a6⟩ := (HEW.out.below hbel).2 i _ g0
        have t0 : wr.cell? ⟨w.heap.size, 0, none⟩ = some (.int .i64 nt) := by
          have := (hbel.block w.heap.size hlt).trans HTB.out
          simp [World.cell?, this]
        have t1 : wr.cell? ⟨w.heap.size, 1, none⟩ = some (.int .i64 no) := by
          have := (hbel.block w.heap.size hlt).trans HTB.out
          simp [World.cell?, this]
        have t2 : wr.cell? ⟨w.heap.size, 2, none⟩ = some (.int .i64 nq) := by
          have := (hbel.block w.heap.size hlt).trans HTB.out
          simp [World.cell?, this]
        have t3 : wr.cell? ⟨w.heap.size, 3, none⟩ = some (.string nx) := by
          have := (hbel.block w.heap.size hlt).trans HTB.out
          simp [World.cell?, this]
        have t4 : wr.cell? ⟨w.heap.size, 4, none⟩ = some (.string nk) := by
          have := (hbel.block w.heap.size hlt).trans HTB.out
          simp [World.cell?, this]
        have t5 : wr.cell? ⟨w.heap.size, 5, none⟩ = some (.string nb) := by
          have := (hbel.block w.heap.size hlt).trans HTB.out
          simp [World.cell?, this]
        have t6 : wr.cell? ⟨w.heap.size, 6, none⟩ = some (.bool na) := by
          have := (hbel.block w.heap.size hlt).trans HTB.out
          simp [World.cell?, this]
        have HG0 : Hid (l[i]? = some l[i]) := g0
        obtain ⟨⟨vt, vo, ⟨vq, vx, vk, vb, va⟩⟩, ha⟩ : ∃ e, l[i] = e := ⟨_, rfl⟩
        rw [ha] at a0 a1 a2 a3 a4 a5 a6 HG0
        have hcmp := qc.compare_held ⟨vt, vo, ⟨vq, vx, vk, vb, va⟩⟩ ⟨nt, no, ⟨nq, nx, nk, nb, na⟩⟩ wr.drew
        obtain ⟨z, hz⟩ : ∃ z, cmpH ⟨vt, vo, ⟨vq, vx, vk, vb, va⟩⟩ ⟨nt, no, ⟨nq, nx, nk, nb, na⟩⟩ = z := ⟨_, rfl⟩
        rw [hz] at hcmp
        have HZ : Hid (cmpH ⟨vt, vo, ⟨vq, vx, vk, vb, va⟩⟩ ⟨nt, no, ⟨nq, nx, nk, nb, na⟩⟩ = z) := hz
        have i2 : (i : Int) < (l.length : Int) := by omega
        have hd : decide ((i : Int) < (l.length : Int)) = true := by simp; omega
        have kc : ∀ N : qi.Cls wr, Calls Try.prog 43 #[.agg #[.int .i64 vt, .int .i64 vo, .int .i64 vq, .string vx, .string vk, .string vb, .bool va], .agg #[.int .i64 nt, .int .i64 no, .int .i64 nq, .string nx, .string nk, .string nb, .bool na]] N.x fun e w' => e = .returned (.int .i64 z) ∧ qi.T wr w' := fun N => by
          have h := qc.compare_held ⟨vt, vo, ⟨vq, vx, vk, vb, va⟩⟩ ⟨nt, no, ⟨nq, nx, nk, nb, na⟩⟩ N.x
          rw [HZ.out] at h
          exact h.mono fun e w' ⟨h1, h2⟩ => ⟨h1, N.h.next h2⟩
        have hgl := (HEW.out.below hbel).1
        have htl : w.heap.size < wr.heap.size := Nat.lt_of_lt_of_le hlt hbs
        have A0 := fun N : qi.Cls wr => (Below.cell N.h (p := ⟨g, i * 7, none⟩) hgl).trans a0
        have A1 := fun N : qi.Cls wr => (Below.cell N.h (p := ⟨g, i * 7 + 1, none⟩) hgl).trans a1
        have A2 := fun N : qi.Cls wr => (Below.cell N.h (p := ⟨g, i * 7 + 2, none⟩) hgl).trans a2
        have A3 := fun N : qi.Cls wr => (Below.cell N.h (p := ⟨g, i * 7 + 3, none⟩) hgl).trans a3
        have A4 := fun N : qi.Cls wr => (Below.cell N.h (p := ⟨g, i * 7 + 4, none⟩) hgl).trans a4
        have A5 := fun N : qi.Cls wr => (Below.cell N.h (p := ⟨g, i * 7 + 5, none⟩) hgl).trans a5
        have A6 := fun N : qi.Cls wr => (Below.cell N.h (p := ⟨g, i * 7 + 6, none⟩) hgl).trans a6
        have T0 := fun N : qi.Cls wr => (Below.cell N.h (p := ⟨w.heap.size, 0, none⟩) htl).trans t0
        have T1 := fun N : qi.Cls wr => (Below.cell N.h (p := ⟨w.heap.size, 1, none⟩) htl).trans t1
        have T2 := fun N : qi.Cls wr => (Below.cell N.h (p := ⟨w.heap.size, 2, none⟩) htl).trans t2
        have T3 := fun N : qi.Cls wr => (Below.cell N.h (p := ⟨w.heap.size, 3, none⟩) htl).trans t3
        have T4 := fun N : qi.Cls wr => (Below.cell N.h (p := ⟨w.heap.size, 4, none⟩) htl).trans t4
        have T5 := fun N : qi.Cls wr => (Below.cell N.h (p := ⟨w.heap.size, 5, none⟩) htl).trans t5
        have T6 := fun N : qi.Cls wr => (Below.cell N.h (p := ⟨w.heap.size, 6, none⟩) htl).trans t6
        clear g0 ha hz hcmp a0 a1 a2 a3 a4 a5 a6 t0 t1 t2 t3 t4 t5 t6
        go_wp2
        refine qi.region_in wr (qi.T.refl wr) (by kernel_rfl) (by kernel_rfl) ?_
        repeat (go_big_quiet_step (first | (go_at_call 43; refine (kc _).mono ?_; rintro e wx ⟨rfl, hTx⟩; exact ⟨rfl, ⟨wx, hTx⟩, rfl⟩)))
        refine wpQuiet_nil ?_
        rintro _ ⟨N, rfl⟩
        have hN := N.h
        generalize N.x = wN at hN ⊢
        clear N kc A0 A1 A2 A3 A4 A5 A6 T0 T1 T2 T3 T4 T5 T6
        go_wp2
        go_ret2
        exact ⟨⟨i, z == 0, rfl, hpos.out, by simp; rw [← HZ.out]; exact ⟨fun h => ⟨_, HG0.out, h⟩, fun ⟨a, ha, h⟩ => by rw [HG0.out] at ha; cases ha; exact h⟩⟩, hb.trans ((hbel.trans (Below.mono hN hbs)).mono (by omega))⟩
      · have hd : decide ((i : Int) < (l.length : Int)) = false := by simp; omega
        have hd2 : ¬ (i : Int) < (l.length : Int) := by omega
        go_wp2
        refine qi.region_in wr (qi.T.refl wr) (by kernel_rfl) (by kernel_rfl) ?_
        repeat (go_big_quiet_step (first | (go_at_call 43; fail)))
        refine wpQuiet_nil ?_
        rintro _ ⟨N, rfl⟩
        have hN := N.h
        generalize N.x = wN at hN ⊢
        clear N
        go_wp2
        go_ret2
        exact ⟨⟨i, false, rfl, hpos.out, by simp; intro a ha; have := (List.getElem?_eq_some_iff.1 ha).1; omega⟩, hb.trans ((hbel.trans (Below.mono hN hbs)).mono (by omega))⟩
end Go.Proofs.Ytcddjfdikedldaa.sch

/- Pop: whether it can be, where the message stands among the held ones, and what comes out. -/
namespace Go.Proofs.Ytcddjfdikedldaa.qpp
open Go.ChangeShapes Go.WideShapes Go.ChangeAt Go.RowKit Go.Proofs.Ytcddjfdikedldaa.fl Go.Proofs.Ytcddjfdikedldaa.qsp Go.Proofs.Ytcddjfdikedldaa.qc Go.Proofs.Ytcddjfdikedldaa.sch
set_option linter.unusedVariables false

def hand (o t : Int) : Bool := decide (0 ≤ o ∧ o ≤ 1000) && decide (1 ≤ t ∧ t ≤ 1000000000)
/-- one of that owner has the tag, or a greater one -/
def late (o t : Int) (h : flH.Hd) : Bool := decide (h.o = o) && decide (t ≤ h.t)
/-- behind the last one of the first k whose owner is not greater -/
def atO (o : Int) (hs : List flH.Hd) : Nat → Nat
  | 0 => 0
  | k + 1 => match hs[k]? with
    | some h => if h.o ≤ o then k + 1 else atO o hs k
    | none => atO o hs k
theorem atO_le (o : Int) (hs : List flH.Hd) : ∀ k, atO o hs k ≤ k
  | 0 => Nat.le_refl _
  | k + 1 => by
    have := atO_le o hs k
    unfold atO
    split
    · split <;> omega
    · omega
theorem atO_yes {o : Int} {hs : List flH.Hd} {k : Nat} {h : flH.Hd} (hk : hs[k]? = some h) (hh : h.o ≤ o) : atO o hs (k + 1) = k + 1 := by unfold atO; rw [hk]; simp [hh]
theorem atO_no {o : Int} {hs : List flH.Hd} {k : Nat} {h : flH.Hd} (hk : hs[k]? = some h) (hh : ¬ h.o ≤ o) : atO o hs (k + 1) = atO o hs k := by rw [atO, hk]; simp [hh]
/-- at a place p: ahead of it none is greater, from it on all are -/
theorem atO_of {o : Int} {hs : List flH.Hd} {p : Nat} (h1 : ∀ (i : Nat) a, i < p → hs[i]? = some a → a.o ≤ o) (h2 : ∀ (i : Nat) a, p ≤ i → hs[i]? = some a → ¬ a.o ≤ o) : ∀ k, k ≤ hs.length → atO o hs k = if k ≤ p then k else p
  | 0, _ => by simp [atO]
  | k + 1, hk => by
    have ih := atO_of h1 h2 k (by omega)
    have hg : hs[k]? = some hs[k] := List.getElem?_eq_getElem (by omega)
    by_cases hkp : k < p
    · rw [atO_yes hg (h1 k _ hkp hg), if_pos (by omega)]
    · rw [atO_no hg (h2 k _ (by omega) hg), ih]
      split <;> split <;> omega
theorem cmpH_lt {a b : flH.Hd} : cmpH a b < 0 ↔ a.o < b.o ∨ (a.o = b.o ∧ a.t < b.t) := by
  unfold cmpH
  by_cases h : a.o = b.o
  · rw [if_neg (by rw [cmpI_zero.2 h]; simp), cmpI_neg]
    omega
  · rw [if_pos (fun e => h (cmpI_zero.1 e)), cmpI_neg]
    omega
/-- owners ascend -/
theorem own_up {nm : ByteArray} {nx : Int} {es : List flM.Ms} {hs : List flH.Hd} (hok : qk.OkQ nm nx es hs) : ∀ (d i : Nat) (a b : flH.Hd), hs[i]? = some a → hs[i + d + 1]? = some b → cmpH a b < 0
  | 0, i, a, b, ha, hb => by
    have := hok.hu i a b ha hb
    rw [cmpH_lt]
    unfold qk.hLt at this
    omega
  | d + 1, i, a, b, ha, hb => by
    have hlt := (List.getElem?_eq_some_iff.1 hb).1
    have hm : hs[i + d + 1]? = some hs[i + d + 1] := List.getElem?_eq_getElem (by omega)
    have h1 := own_up hok d i a _ ha hm
    have h2 := hok.hu (i + d + 1) _ b hm (by rw [show i + d + 1 + 1 = i + (d + 1) + 1 by omega]; exact hb)
    rw [cmpH_lt] at h1 ⊢
    unfold qk.hLt at h2
    omega
theorem mon_ok {nm : ByteArray} {nx : Int} {es : List flM.Ms} {hs : List flH.Hd} (hok : qk.OkQ nm nx es hs) (t : flH.Hd) : MonH hs t := fun i j a b hij ha hb h => by
  rcases Nat.lt_or_ge i j with hlt | hge
  · have := own_up hok (j - i - 1) i a b ha (by rw [show i + (j - i - 1) + 1 = j by omega]; exact hb)
    rw [cmpH_lt] at this h ⊢
    omega
  · obtain rfl : i = j := by omega
    rw [ha] at hb
    cases hb
    exact h
/-- what the search says of it -/
theorem late_iff {nm : ByteArray} {nx : Int} {es : List flM.Ms} {hs : List flH.Hd} (hok : qk.OkQ nm nx es hs) {o t : Int} {m : flM.Ms} {p : Nat} (hp : PosH hs ⟨t, o, m⟩ p) : hs.any (late o t) = true ↔ ∃ a, hs[p]? = some a ∧ a.o = o := by
  rw [List.any_eq_true]
  constructor
  · rintro ⟨h, hm, hl⟩
    simp only [late, Bool.and_eq_true, decide_eq_true_eq] at hl
    obtain ⟨i, hi⟩ := List.mem_iff_getElem?.1 hm
    have hpi : p ≤ i := by
      rcases Nat.lt_or_ge i p with h1 | h1
      · have := cmpH_lt.1 (hp.lt i h h1 hi)
        have h2 : h.o < o ∨ (h.o = o ∧ h.t < t) := this
        omega
      · exact h1
    have hlt := (List.getElem?_eq_some_iff.1 hi).1
    have hg : hs[p]? = some hs[p] := List.getElem?_eq_getElem (by omega)
    refine ⟨_, hg, ?_⟩
    have hge := hp.ge p _ (Nat.le_refl _) hg
    have hn : ¬ (hs[p].o < o ∨ (hs[p].o = o ∧ hs[p].t < t)) := fun e => by have := cmpH_lt (b := ⟨t, o, m⟩).2 e; omega
    rcases Nat.lt_or_ge p i with h1 | h1
    · have h3 := cmpH_lt.1 (own_up hok (i - p - 1) p _ h hg (by rw [show p + (i - p - 1) + 1 = i by omega]; exact hi))
      omega
    · obtain rfl : p = i := by omega
      rw [hi] at hg
      have := Option.some.inj hg
      rw [← this]
      exact hl.1
  · rintro ⟨a, ha, hao⟩
    refine ⟨a, List.mem_of_getElem? ha, ?_⟩
    have hge := hp.ge p a (Nat.le_refl _) ha
    have hn : ¬ (a.o < o ∨ (a.o = o ∧ a.t < t)) := fun e => by have := cmpH_lt (b := ⟨t, o, m⟩).2 e; omega
    simp only [late, Bool.and_eq_true, decide_eq_true_eq]
    omega
theorem atO_pos {nm : ByteArray} {nx : Int} {es : List flM.Ms} {hs : List flH.Hd} (hok : qk.OkQ nm nx es hs) {o t : Int} {m : flM.Ms} {p : Nat} (hp : PosH hs ⟨t, o, m⟩ p) (hl : hs.any (late o t) = false) : atO o hs hs.length = p := by
  have h := atO_of (o := o) (hs := hs) (p := p) (fun i a hi ha => by
    have h2 : a.o < o ∨ (a.o = o ∧ a.t < t) := cmpH_lt.1 (hp.lt i a hi ha)
    omega) (fun i a hi ha => by
    have hge := hp.ge i a hi ha
    have hn : ¬ (a.o < o ∨ (a.o = o ∧ a.t < t)) := fun e => by have := cmpH_lt (b := ⟨t, o, m⟩).2 e; omega
    have hx : late o t a = false := by
      cases hh : late o t a with
      | false => rfl
      | true => have : hs.any (late o t) = true := List.any_eq_true.2 ⟨a, List.mem_of_getElem? ha, hh⟩; rw [hl] at this; cases this
    have hx2 : ¬ (a.o = o ∧ t ≤ a.t) := fun e => by simp [late, e.1, e.2] at hx
    omega) hs.length (Nat.le_refl _)
  rw [h]
  have := hp.le
  split <;> omega
noncomputable def good (nm : ByteArray) (nx : Int) (rs : List flM.Ms) (hs : List flH.Hd) (o t : Int) : Bool := okB nm nx rs hs && hand o t && !rs.isEmpty && !hs.any (late o t)
def headM (rs : List flM.Ms) : flM.Ms := match rs with
  | [] => ⟨0, ⟨#[]⟩, ⟨#[]⟩, ⟨#[]⟩, false⟩
  | m :: _ => m
noncomputable def ansR (nm : ByteArray) (nx : Int) (rs : List flM.Ms) (hs : List flH.Hd) (o t : Int) : List flM.Ms := if good nm nx rs hs o t = true then rs.tail else rs
noncomputable def ansH (nm : ByteArray) (nx : Int) (rs : List flM.Ms) (hs : List flH.Hd) (o t : Int) : List flH.Hd := if good nm nx rs hs o t = true then hs.take (atO o hs hs.length) ++ ⟨t, o, headM rs⟩ :: hs.drop (atO o hs hs.length) else hs
noncomputable def ansM (nm : ByteArray) (nx : Int) (rs : List flM.Ms) (hs : List flH.Hd) (o t : Int) : flM.Ms := if good nm nx rs hs o t = true then headM rs else headM []
theorem ansR_le (nm : ByteArray) (nx : Int) (rs : List flM.Ms) (hs : List flH.Hd) (o t : Int) : (ansR nm nx rs hs o t).length ≤ rs.length := by
  unfold ansR
  split <;> simp
theorem ansH_le (nm : ByteArray) (nx : Int) (rs : List flM.Ms) (hs : List flH.Hd) (o t : Int) : (ansH nm nx rs hs o t).length ≤ hs.length + 1 := by
  have := atO_le o hs hs.length
  unfold ansH
  split
  · simp; omega
  · omega
end Go.Proofs.Ytcddjfdikedldaa.qpp

/- Whether an owner and a tag may be those of a message that is handed out: the program's handOk, the specification's l01In. -/
namespace Go.Proofs.Ytcddjfdikedldaa.qhd
open Go.ChangeShapes Go.WideShapes Go.ChangeAt Go.RowKit Go.Proofs.Ytcddjfdikedldaa.qpp
set_option linter.unusedVariables false

set_option maxRecDepth 100000 in
theorem impl_hand (o t : Int) (w : World) : Calls Try.prog 40 #[.int .i64 o, .int .i64 t] w fun e w' => e = .returned (.bool (hand o t)) ∧ w' = w := by
  by_cases h1 : 0 ≤ o
  · by_cases h2 : o ≤ 1000
    · by_cases h3 : 1 ≤ t
      · by_cases h4 : t ≤ 1000000000
        · have hh : hand o t = true := by simp [hand, h1, h2, h3, h4]
          rw [hh]
          go_enter Try.func40, Try.ntmps40
          go_wp2
          go_ret
          exact ⟨rfl, rfl⟩
        · have hh : hand o t = false := by simp [hand, h1, h2, h3, h4]
          rw [hh]
          go_enter Try.func40, Try.ntmps40
          go_wp2
          go_ret
          exact ⟨rfl, rfl⟩
      · have hh : hand o t = false := by simp [hand, h1, h2, h3]
        rw [hh]
        go_enter Try.func40, Try.ntmps40
        go_wp2
        go_ret
        exact ⟨rfl, rfl⟩
    · have hh : hand o t = false := by simp [hand, h1, h2]
      rw [hh]
      go_enter Try.func40, Try.ntmps40
      go_wp2
      go_ret
      exact ⟨rfl, rfl⟩
  · have hh : hand o t = false := by simp [hand, h1]
    rw [hh]
    go_enter Try.func40, Try.ntmps40
    go_wp2
    go_ret
    exact ⟨rfl, rfl⟩
theorem within (x a b : Int) (w : World) : Calls Try.prog 39 #[.int .i64 x, .int .i64 a, .int .i64 b] w fun e w' => e = .returned (.bool (decide (a ≤ x ∧ x ≤ b))) ∧ w = w' := by
  by_cases h1 : a ≤ x
  · by_cases h2 : x ≤ b
    · have e : decide (a ≤ x ∧ x ≤ b) = true := by simp [h1, h2]
      rw [e]
      go_enter Try.func39, Try.ntmps39
      go_wp2
      go_ret
      simp
    · have e : decide (a ≤ x ∧ x ≤ b) = false := by simp [h1, h2]
      rw [e]
      go_enter Try.func39, Try.ntmps39
      go_wp2
      go_ret
      simp
  · have e : decide (a ≤ x ∧ x ≤ b) = false := by simp [h1]
    rw [e]
    go_enter Try.func39, Try.ntmps39
    go_wp2
    go_ret
    exact ⟨rfl, rfl⟩
end Go.Proofs.Ytcddjfdikedldaa.qhd

/- append(append(append([]T{}, a...), x), b...) laid into a field, in one region that draws its order: the row that it leaves. -/
namespace Go.Proofs.Ytcddjfdikedldaa.ta
open Go.ChangeShapes Go.WideShapes Go.ChangeAt Go.RowKit Go.Proofs.Ytcddjfdikedldaa.fl
set_option linter.unusedVariables false

/-- what is drawn: the empty row, the row behind the first append, the new one's place, the rows behind the other two -/
structure G where
  e0 : Nat
  v1 : Value
  h : Nat
  v2 : Value
  v3 : Value
/-- the world ahead, the type and its cells, the cells ahead, of the new one and behind, how many ahead and behind, and where the row is laid -/
structure Pr where
  W0 : World
  T : TypeId
  n : Nat
  xs : List Value
  ms : List Value
  ys : List Value
  k : Nat
  m : Nat
  b : Nat
  j : Nat
structure D (p : Pr) (g : G) (c0 c1 c2 c3 c4 c5 : Bool) (W : World) : Prop where
  bel : ∃ V, Below p.W0.heap.size p.W0 V ∧ W = if c5 then V.setCell ⟨p.b, p.j, none⟩ g.v3 else V
  at0 : c0 = true → c1 = false → W.ownsRow p.W0.heap.size p.T p.n (.slice (some ⟨g.e0, 0, none⟩) 0 0) 0 []
  at1 : c1 = true → c0 = true ∧ (c3 = false → W.ownsRow p.W0.heap.size p.T p.n g.v1 p.k p.xs)
  at2 : c2 = true → c3 = false → W.heap[g.h]? = some (.cells p.ms.toArray p.T (0, 0)) ∧ (c0 = true → c1 = false → g.e0 ≠ g.h) ∧ (c1 = true → g.v1.ownBlock ≠ some g.h)
  at3 : c3 = true → c1 = true ∧ c2 = true ∧ (c4 = false → W.ownsRow p.W0.heap.size p.T p.n g.v2 (p.k + 1) (p.xs ++ p.ms))
  at4 : c4 = true → c3 = true ∧ W.ownsRow p.W0.heap.size p.T p.n g.v3 (p.k + 1 + p.m) (p.xs ++ p.ms ++ p.ys)
  at5 : c5 = true → c4 = true
section
variable {p : Pr} {g : G} {c0 c1 c2 c3 c4 c5 : Bool} {W W' : World} {v : Value}
theorem D.size (h : D p g c0 c1 c2 c3 c4 c5 W) : p.W0.heap.size ≤ W.heap.size := by
  obtain ⟨V, hV, rfl⟩ := h.bel
  have := hV.size
  split
  · simpa using this
  · exact this
theorem D.old (h : D p g c0 c1 c2 c3 c4 c5 W) {b : Nat} {o : Obj} (hb : p.W0.heap[b]? = some o) (hne : b ≠ p.b) : W.heap[b]? = some o := by
  obtain ⟨V, hV, rfl⟩ := h.bel
  have := bstay hb hV (Array.getElem?_eq_some_iff.1 hb).1
  split
  · exact boff this _ _ _ hne
  · exact this
theorem D.below (h : D p g c0 c1 c2 c3 c4 false W) : Below p.W0.heap.size p.W0 W := by
  obtain ⟨V, hV, rfl⟩ := h.bel
  exact hV
theorem no31 (h : D p g c0 false c2 c3 c4 c5 W) : c3 = false := by
  cases c3 with
  | false => rfl
  | true => have := (h.at3 rfl).1; cases this
theorem no32 (h : D p g c0 c1 false c3 c4 c5 W) : c3 = false := by
  cases c3 with
  | false => rfl
  | true => have := (h.at3 rfl).2.1; cases this
theorem no4 (h : D p g c0 c1 c2 false c4 c5 W) : c4 = false := by
  cases c4 with
  | false => rfl
  | true => have := (h.at4 rfl).1; cases this
theorem no5 (h : D p g c0 c1 c2 c3 false c5 W) : c5 = false := by
  cases c5 with
  | false => rfl
  | true => have := h.at5 rfl; cases this
theorem no1 (h : D p g false c1 c2 c3 c4 c5 W) : c1 = false := by
  cases c1 with
  | false => rfl
  | true => have := (h.at1 rfl).1; cases this
/-- the empty row is made -/
theorem D.s0 (h : D p g false c1 c2 c3 c4 c5 W) : D p { g with e0 := W.heap.size } true c1 c2 c3 c4 c5 (W.alloc (.cells #[] p.T)) := by
  obtain rfl := no1 h
  obtain rfl := no31 h
  obtain rfl := no4 h
  obtain rfl := no5 h
  have hs := h.size
  refine ⟨⟨_, h.below.alloc hs _, rfl⟩, fun _ _ => World.ownsRow_made W #[] 0 hs (by unfold maxLen; omega) (by simp), fun e => (by cases e), fun e _ => ?_, fun e => (by cases e), fun e => (by cases e), fun e => (by cases e)⟩
  obtain ⟨h1, _, h3⟩ := h.at2 e rfl
  have := (Array.getElem?_eq_some_iff.1 h1).1
  exact ⟨bold h1 _, fun _ _ => (by show W.heap.size ≠ g.h; omega), h3⟩
/-- the first append -/
theorem D.s1 (h : D p g c0 false c2 c3 c4 c5 W) (h0 : c0 = true) (hg : W.grownBy W' (some g.e0)) (ho : W'.ownsRow p.W0.heap.size p.T p.n v p.k p.xs) (hat : v.ownBlock = some g.e0 ∨ v.ownBlock = some W.heap.size) : D p { g with v1 := v } c0 true c2 c3 c4 c5 W' := by
  obtain rfl := no31 h
  obtain rfl := no4 h
  obtain rfl := no5 h
  have hs := h.size
  have he := ((h.at0 h0 rfl).lt g.e0 rfl)
  refine ⟨⟨_, h.below.grown hg hs (fun b hb => by cases hb; exact he.1), rfl⟩, fun _ e => (by cases e), fun _ => ⟨h0, fun _ => ho⟩, fun e _ => ?_, fun e => (by cases e), fun e => (by cases e), fun e => (by cases e)⟩
  obtain ⟨h1, h2, _⟩ := h.at2 e rfl
  have hne := h2 h0 rfl
  have hlt := (Array.getElem?_eq_some_iff.1 h1).1
  refine ⟨(hg.block _ hlt (fun e => by have := Option.some.inj e; omega)).trans h1, fun _ e => (by cases e), fun _ e => ?_⟩
  have e' : v.ownBlock = some g.h := e
  rcases hat with ha | ha
  · rw [ha] at e'; have := Option.some.inj e'; omega
  · rw [ha] at e'; simp at e'; omega
/-- the new one's place -/
theorem D.s2 (h : D p g c0 c1 false c3 c4 c5 W) : D p { g with h := W.heap.size } c0 c1 true c3 c4 c5 (W.alloc (.cells p.ms.toArray p.T)) := by
  obtain rfl := no32 h
  obtain rfl := no4 h
  obtain rfl := no5 h
  have hs := h.size
  refine ⟨⟨_, h.below.alloc hs _, rfl⟩, fun a b => (h.at0 a b).alloc _, fun a => ⟨(h.at1 a).1, fun b => ((h.at1 a).2 b).alloc _⟩, fun _ _ => ⟨bnew W _ _, fun a b => ?_, fun a e => ?_⟩, fun e => (by cases e), fun e => (by cases e), fun e => (by cases e)⟩
  · have := ((h.at0 a b).lt g.e0 rfl).2
    show g.e0 ≠ W.heap.size
    omega
  · have := (((h.at1 a).2 rfl).lt _ e).2
    have : W.heap.size < W.heap.size := this
    omega
/-- the second append -/
theorem D.s3 (h : D p g c0 c1 c2 false c4 c5 W) (h1 : c1 = true) (h2 : c2 = true) (hg : W.grownBy W' g.v1.ownBlock) (ho : W'.ownsRow p.W0.heap.size p.T p.n v (p.k + 1) (p.xs ++ p.ms)) : D p { g with v2 := v } c0 c1 c2 true c4 c5 W' := by
  obtain rfl := no4 h
  obtain rfl := no5 h
  have hs := h.size
  have he := ((h.at1 h1).2 rfl).lt
  exact ⟨⟨_, h.below.grown hg hs (fun b hb => (he b hb).1), rfl⟩, fun a b => (by rw [h1] at b; cases b), fun a => ⟨(h.at1 a).1, fun e => (by cases e)⟩, fun _ e => (by cases e), fun _ => ⟨h1, h2, fun _ => ho⟩, fun e => (by cases e), fun e => (by cases e)⟩
/-- the third append -/
theorem D.s4 (h : D p g c0 c1 c2 c3 false c5 W) (h3 : c3 = true) (hg : W.grownBy W' g.v2.ownBlock) (ho : W'.ownsRow p.W0.heap.size p.T p.n v (p.k + 1 + p.m) (p.xs ++ p.ms ++ p.ys)) : D p { g with v3 := v } c0 c1 c2 c3 true c5 W' := by
  obtain rfl := no5 h
  have hs := h.size
  have he := ((h.at3 h3).2.2 rfl).lt
  obtain ⟨l1, l2, _⟩ := h.at3 h3
  exact ⟨⟨_, h.below.grown hg hs (fun b hb => (he b hb).1), rfl⟩, fun a b => (by rw [l1] at b; cases b), fun a => ⟨(h.at1 a).1, fun e => (by rw [h3] at e; cases e)⟩, fun _ e => (by rw [h3] at e; cases e), fun _ => ⟨l1, l2, fun e => (by cases e)⟩, fun _ => ⟨h3, ho⟩, fun e => (by cases e)⟩
/-- it is laid into its field -/
theorem D.s5 (h : D p g c0 c1 c2 c3 c4 false W) (h4 : c4 = true) (hb : p.b < p.W0.heap.size) : D p g c0 c1 c2 c3 c4 true (W.setCell ⟨p.b, p.j, none⟩ g.v3) := by
  obtain ⟨h3, ho⟩ := h.at4 h4
  obtain ⟨l1, l2, _⟩ := h.at3 h3
  refine ⟨⟨W, h.below, rfl⟩, fun a b => (by rw [l1] at b; cases b), fun a => ⟨(h.at1 a).1, fun e => (by rw [h3] at e; cases e)⟩, fun _ e => (by rw [h3] at e; cases e), fun _ => ⟨l1, l2, fun e => (by rw [h4] at e; cases e)⟩, fun _ => ⟨h3, ?_⟩, fun _ => h4⟩
  refine ho.kept (row := some p.b) ⟨rfl, rfl, rfl, by simp, fun k hk hne => Below.heap_setCell _ _ _ _ (fun e => hne (by rw [e]))⟩ ?_
  right
  intro e
  have := (ho.lt _ e).1
  omega
end
theorem add0 (g j : Nat) : (⟨g, 0, none⟩ : Addr).add j = ⟨g, j, none⟩ := by unfold Addr.add; split <;> simp_all
theorem more_on (L : Nat → Bool) (i : Nat) : dn.more L i i = true := by unfold dn.more; rw [if_pos rfl]
theorem more_off (L : Nat → Bool) {i j : Nat} (h : j ≠ i) : dn.more L i j = L j := by unfold dn.more; rw [if_neg h]
/-- the numbers of the six operations that count -/
structure J where
  j0 : Nat
  j1 : Nat
  j2 : Nat
  j3 : Nat
  j4 : Nat
  j5 : Nat
def J.up (x : J) : Prop := x.j0 < x.j1 ∧ x.j1 < x.j2 ∧ x.j2 < x.j3 ∧ x.j3 < x.j4 ∧ x.j4 < x.j5
def C (p : Pr) (x : J) (g : G) (L : Nat → Bool) (W : World) : Prop := D p g (L x.j0) (L x.j1) (L x.j2) (L x.j3) (L x.j4) (L x.j5) W
theorem C.d {p : Pr} {x : J} {g : G} {L : Nat → Bool} {W : World} (h : C p x g L W) : D p g (L x.j0) (L x.j1) (L x.j2) (L x.j3) (L x.j4) (L x.j5) W := h
section
variable {p : Pr} {x : J} {ws : G → List (Nat × Value)} {act : Act} {Q : Exit → Act → World → Prop} {o : Oper}
theorem quiet {i : Nat} (hi : i ≠ x.j0 ∧ i ≠ x.j1 ∧ i ≠ x.j2 ∧ i ≠ x.j3 ∧ i ≠ x.j4 ∧ i ≠ x.j5) (hsel : ∀ cs b, o.op ≠ .select cs b) (u : Value) (hd : ∀ s d, o.dst = some d → (dk.sets act (ws s)).tmps[d]? = some u)
    (hrun : ∀ s W, (∀ (b : Nat) (o : Obj), p.W0.heap[b]? = some o → b ≠ p.b → W.heap[b]? = some o) → (execOp (dk.sets act (ws s)).eval o).run Try.prog W = .ok (.value u) W) : gh.Step Try.prog (fun s => dk.sets act (ws s)) (C p x) Q i o := by
  refine gh.step_val hsel fun s L W hdp h0 hC => ⟨s, u, gh.Agree.refl _ _, hd s, ?_⟩
  rw [hrun s W (fun b o hb hne => hC.d.old hb hne)]
  refine ⟨rfl, ?_⟩
  obtain ⟨i0, i1, i2, i3, i4, i5⟩ := hi
  unfold C
  rw [more_off L i0.symm, more_off L i1.symm, more_off L i2.symm, more_off L i3.symm, more_off L i4.symm, more_off L i5.symm]
  exact hC
theorem st0 (hx : x.up) {d idx : Nat} (hsel : ∀ cs b, o.op ≠ .select cs b) (hdst : o.dst = some d) (hsz : d < act.tmps.size) (ld : ∀ g, (ws g).lookup d = some (.slice (some ⟨g.e0, 0, none⟩) 0 0)) (hidx : ∀ g, ((ws g)[idx]?.map (·.1)) = some d) (hset : ∀ g (e : Nat), ws { g with e0 := e } = (ws g).set idx (d, .slice (some ⟨e, 0, none⟩) 0 0))
    (hrun : ∀ s W, (execOp (dk.sets act (ws s)).eval o).run Try.prog W = .ok (.value (.slice (some ⟨W.heap.size, 0, none⟩) 0 0)) (W.alloc (.cells #[] p.T))) : gh.Step Try.prog (fun s => dk.sets act (ws s)) (C p x) Q x.j0 o := by
  refine gh.step_val hsel fun s L W hdp h0 hC => ⟨{ s with e0 := W.heap.size }, .slice (some ⟨W.heap.size, 0, none⟩) 0 0, dk.agree_sets idx d _ hdst (hidx s) (hset s _), (fun d' hd => by rw [hdst] at hd; cases hd; exact dk.sets_on _ hsz _ (ld _)), ?_⟩
  rw [hrun]
  refine ⟨rfl, ?_⟩
  obtain ⟨u0, u1, u2, u3, u4⟩ := hx
  have hd := hC.d
  rw [h0] at hd
  unfold C
  rw [more_on, more_off L (show x.j1 ≠ x.j0 by omega), more_off L (show x.j2 ≠ x.j0 by omega), more_off L (show x.j3 ≠ x.j0 by omega), more_off L (show x.j4 ≠ x.j0 by omega), more_off L (show x.j5 ≠ x.j0 by omega)]
  exact hd.s0
theorem st2 (hx : x.up) {d idx : Nat} (hsel : ∀ cs b, o.op ≠ .select cs b) (hdst : o.dst = some d) (hsz : d < act.tmps.size) (ld : ∀ g, (ws g).lookup d = some (.slice (some ⟨g.h, 0, none⟩) 1 1)) (hidx : ∀ g, ((ws g)[idx]?.map (·.1)) = some d) (hset : ∀ g (e : Nat), ws { g with h := e } = (ws g).set idx (d, .slice (some ⟨e, 0, none⟩) 1 1))
    (hrun : ∀ s W, (execOp (dk.sets act (ws s)).eval o).run Try.prog W = .ok (.value (.slice (some ⟨W.heap.size, 0, none⟩) 1 1)) (W.alloc (.cells p.ms.toArray p.T))) : gh.Step Try.prog (fun s => dk.sets act (ws s)) (C p x) Q x.j2 o := by
  refine gh.step_val hsel fun s L W hdp h0 hC => ⟨{ s with h := W.heap.size }, .slice (some ⟨W.heap.size, 0, none⟩) 1 1, dk.agree_sets idx d _ hdst (hidx s) (hset s _), (fun d' hd => by rw [hdst] at hd; cases hd; exact dk.sets_on _ hsz _ (ld _)), ?_⟩
  rw [hrun]
  refine ⟨rfl, ?_⟩
  obtain ⟨u0, u1, u2, u3, u4⟩ := hx
  have hd := hC.d
  rw [h0] at hd
  unfold C
  rw [more_on, more_off L (show x.j0 ≠ x.j2 by omega), more_off L (show x.j1 ≠ x.j2 by omega), more_off L (show x.j3 ≠ x.j2 by omega), more_off L (show x.j4 ≠ x.j2 by omega), more_off L (show x.j5 ≠ x.j2 by omega)]
  exact hd.s2
theorem app_run {ST s1 s2 m c : Nat} {a : Addr} {v v' : Value} {f : Act} {W w' : World} (hop : o.op = .call { callee := .builtin .append, args := #[.tmp s1, .tmp s2], argTypes := #[ST, ST] }) (e1 : f.eval (.tmp s1) = v) (e2 : f.eval (.tmp s2) = .slice (some a) m c) (hr : (Builtin.append_ #[ST, ST] o.type #[v, .slice (some a) m c]).run Try.prog W = .ok v' w') : (execOp f.eval o).run Try.prog W = .ok (.value v') w' := by
  unfold execOp
  simp only [hop, resolve, invoke, builtin, Sem.run_bind, Sem.run_pure, Result.andThen_ok, List.map_toArray, List.map_cons, List.map_nil, e1, e2, hr]
variable {ST : TypeId} {i0 : TypeInfo} {z : Value} {bytes : Nat}
theorem st1 (hx : x.up) (ht : Try.prog.underlying ST = some (.slice p.T)) (hi : Try.prog.info? p.T = some i0) (hz : i0.zero = some z) (hn : i0.size = p.n) (hb : i0.bytes = bytes) (hzs : z.cells.size = p.n) (hn0 : 0 < p.n)
    {s1 s2 d idx c : Nat} {a : Addr} (hop : o.op = .call { callee := .builtin .append, args := #[.tmp s1, .tmp s2], argTypes := #[ST, ST] }) (hdst : o.dst = some d) (hsz : d < act.tmps.size ∧ s1 < act.tmps.size ∧ s2 < act.tmps.size)
    (ld : ∀ g, (ws g).lookup d = some g.v1) (l1 : ∀ g, (ws g).lookup s1 = some (.slice (some ⟨g.e0, 0, none⟩) 0 0)) (l2 : ∀ g, (ws g).lookup s2 = some (.slice (some a) p.k c)) (hidx : ∀ g, ((ws g)[idx]?.map (·.1)) = some d) (hset : ∀ g (v : Value), ws { g with v1 := v } = (ws g).set idx (d, v))
    (hlen : p.xs.length = p.k * p.n) (hnews : ∀ W, Below p.W0.heap.size p.W0 W → ∀ j u, p.xs[j]? = some u → W.cell? (a.add j) = some u) (h1c : ∀ u ∈ p.xs, u.oneCell' = true) (hk : p.k ≤ 1048576) (hby : (0 + p.k) * bytes ≤ 140737488355328)
    (hdep : ∃ e ∈ o.after, Region.binds .any e = true ∧ e.on = x.j0) : gh.Step Try.prog (fun s => dk.sets act (ws s)) (C p x) Q x.j1 o := by
  refine gh.step_val (by rw [hop]; simp) fun s L W hdp h0 hC => ?_
  obtain ⟨xp, mp, yp, zp⟩ := hdep
  have lp := hdp xp mp yp
  rw [zp] at lp
  obtain ⟨u0, u1, u2, u3, u4⟩ := hx
  have hd := hC.d
  rw [h0] at hd
  have hbel : Below p.W0.heap.size p.W0 W := by
    have e3 := no31 hd
    rw [e3] at hd
    have e4 := no4 hd
    rw [e4] at hd
    have e5 := no5 hd
    rw [e5] at hd
    exact hd.below
  have hold := hd.at0 lp rfl
  obtain ⟨v', w', hr, ho, hg, _, hat⟩ := run_append_own_at (P := Try.prog) W p.W0.heap.size ST o.type p.T i0 z p.n bytes ht hi hz hn hb hzs hn0 _ 0 [] hold a p.k c p.xs hlen (hnews W hbel) h1c (by unfold maxLen; omega) hby hd.size
  rw [Nat.zero_add, List.nil_append] at ho
  refine ⟨{ s with v1 := v' }, v', dk.agree_sets idx d _ hdst (hidx s) (hset s _), (fun d' hd => by rw [hdst] at hd; cases hd; exact dk.sets_on _ hsz.1 _ (ld _)), ?_⟩
  rw [app_run hop (dk.eval_on _ _ hsz.2.1 (l1 s)) (dk.eval_on _ _ hsz.2.2 (l2 s)) hr]
  refine ⟨rfl, ?_⟩
  unfold C
  rw [more_on, more_off L (show x.j0 ≠ x.j1 by omega), more_off L (show x.j2 ≠ x.j1 by omega), more_off L (show x.j3 ≠ x.j1 by omega), more_off L (show x.j4 ≠ x.j1 by omega), more_off L (show x.j5 ≠ x.j1 by omega)]
  exact hd.s1 lp hg ho hat
theorem st3 (hx : x.up) (ht : Try.prog.underlying ST = some (.slice p.T)) (hi : Try.prog.info? p.T = some i0) (hz : i0.zero = some z) (hn : i0.size = p.n) (hb : i0.bytes = bytes) (hzs : z.cells.size = p.n) (hn0 : 0 < p.n)
    {s1 s2 d idx : Nat} (hop : o.op = .call { callee := .builtin .append, args := #[.tmp s1, .tmp s2], argTypes := #[ST, ST] }) (hdst : o.dst = some d) (hsz : d < act.tmps.size ∧ s1 < act.tmps.size ∧ s2 < act.tmps.size)
    (ld : ∀ g, (ws g).lookup d = some g.v2) (l1 : ∀ g, (ws g).lookup s1 = some g.v1) (l2 : ∀ g, (ws g).lookup s2 = some (.slice (some ⟨g.h, 0, none⟩) 1 1)) (hidx : ∀ g, ((ws g)[idx]?.map (·.1)) = some d) (hset : ∀ g (v : Value), ws { g with v2 := v } = (ws g).set idx (d, v))
    (hlen : p.ms.length = p.n) (h1c : ∀ u ∈ p.ms, u.oneCell' = true) (hk : p.k ≤ 1048576) (hby : (p.k + 1) * bytes ≤ 140737488355328)
    (hdep : ∃ e ∈ o.after, Region.binds .any e = true ∧ e.on = x.j1) (hdep2 : ∃ e ∈ o.after, Region.binds .any e = true ∧ e.on = x.j2) : gh.Step Try.prog (fun s => dk.sets act (ws s)) (C p x) Q x.j3 o := by
  refine gh.step_val (by rw [hop]; simp) fun s L W hdp h0 hC => ?_
  obtain ⟨xp, mp, yp, zp⟩ := hdep
  have lp := hdp xp mp yp
  rw [zp] at lp
  obtain ⟨xq, mq, yq, zq⟩ := hdep2
  have lq := hdp xq mq yq
  rw [zq] at lq
  obtain ⟨u0, u1, u2, u3, u4⟩ := hx
  have hd := hC.d
  rw [h0] at hd
  have hold := (hd.at1 lp).2 rfl
  obtain ⟨hcell, _, _⟩ := hd.at2 lq rfl
  have hnews : ∀ j u, p.ms[j]? = some u → W.cell? ((⟨s.h, 0, none⟩ : Addr).add j) = some u := fun j u hu => by
    rw [add0]
    exact bcell hcell (by simpa using hu)
  obtain ⟨v', w', hr, ho, hg, _, hat⟩ := run_append_own_at (P := Try.prog) W p.W0.heap.size ST o.type p.T i0 z p.n bytes ht hi hz hn hb hzs hn0 _ p.k p.xs hold ⟨s.h, 0, none⟩ 1 1 p.ms (by rw [hlen, Nat.one_mul]) hnews h1c (by unfold maxLen; omega) hby hd.size
  refine ⟨{ s with v2 := v' }, v', dk.agree_sets idx d _ hdst (hidx s) (hset s _), (fun d' hd => by rw [hdst] at hd; cases hd; exact dk.sets_on _ hsz.1 _ (ld _)), ?_⟩
  rw [app_run hop (dk.eval_on _ _ hsz.2.1 (l1 s)) (dk.eval_on _ _ hsz.2.2 (l2 s)) hr]
  refine ⟨rfl, ?_⟩
  unfold C
  rw [more_on, more_off L (show x.j0 ≠ x.j3 by omega), more_off L (show x.j1 ≠ x.j3 by omega), more_off L (show x.j2 ≠ x.j3 by omega), more_off L (show x.j4 ≠ x.j3 by omega), more_off L (show x.j5 ≠ x.j3 by omega)]
  exact hd.s3 lp lq hg ho
theorem st4 (hx : x.up) (ht : Try.prog.underlying ST = some (.slice p.T)) (hi : Try.prog.info? p.T = some i0) (hz : i0.zero = some z) (hn : i0.size = p.n) (hb : i0.bytes = bytes) (hzs : z.cells.size = p.n) (hn0 : 0 < p.n)
    {s1 s2 d idx c : Nat} {a : Addr} (hop : o.op = .call { callee := .builtin .append, args := #[.tmp s1, .tmp s2], argTypes := #[ST, ST] }) (hdst : o.dst = some d) (hsz : d < act.tmps.size ∧ s1 < act.tmps.size ∧ s2 < act.tmps.size)
    (ld : ∀ g, (ws g).lookup d = some g.v3) (l1 : ∀ g, (ws g).lookup s1 = some g.v2) (l2 : ∀ g, (ws g).lookup s2 = some (.slice (some a) p.m c)) (hidx : ∀ g, ((ws g)[idx]?.map (·.1)) = some d) (hset : ∀ g (v : Value), ws { g with v3 := v } = (ws g).set idx (d, v))
    (hlen : p.ys.length = p.m * p.n) (hnews : ∀ W, Below p.W0.heap.size p.W0 W → ∀ j u, p.ys[j]? = some u → W.cell? (a.add j) = some u) (h1c : ∀ u ∈ p.ys, u.oneCell' = true) (hk : p.k ≤ 1048576 ∧ p.m ≤ 1048576) (hby : (p.k + 1 + p.m) * bytes ≤ 140737488355328)
    (hdep : ∃ e ∈ o.after, Region.binds .any e = true ∧ e.on = x.j3) : gh.Step Try.prog (fun s => dk.sets act (ws s)) (C p x) Q x.j4 o := by
  refine gh.step_val (by rw [hop]; simp) fun s L W hdp h0 hC => ?_
  obtain ⟨xp, mp, yp, zp⟩ := hdep
  have lp := hdp xp mp yp
  rw [zp] at lp
  obtain ⟨u0, u1, u2, u3, u4⟩ := hx
  have hd := hC.d
  rw [h0] at hd
  have hbel : Below p.W0.heap.size p.W0 W := by
    have e5 := no5 hd
    rw [e5] at hd
    exact hd.below
  have hold := (hd.at3 lp).2.2 rfl
  obtain ⟨v', w', hr, ho, hg, _, hat⟩ := run_append_own_at (P := Try.prog) W p.W0.heap.size ST o.type p.T i0 z p.n bytes ht hi hz hn hb hzs hn0 _ (p.k + 1) (p.xs ++ p.ms) hold a p.m c p.ys hlen (hnews W hbel) h1c (by unfold maxLen; omega) hby hd.size
  refine ⟨{ s with v3 := v' }, v', dk.agree_sets idx d _ hdst (hidx s) (hset s _), (fun d' hd => by rw [hdst] at hd; cases hd; exact dk.sets_on _ hsz.1 _ (ld _)), ?_⟩
  rw [app_run hop (dk.eval_on _ _ hsz.2.1 (l1 s)) (dk.eval_on _ _ hsz.2.2 (l2 s)) hr]
  refine ⟨rfl, ?_⟩
  unfold C
  rw [more_on, more_off L (show x.j0 ≠ x.j4 by omega), more_off L (show x.j1 ≠ x.j4 by omega), more_off L (show x.j2 ≠ x.j4 by omega), more_off L (show x.j3 ≠ x.j4 by omega), more_off L (show x.j5 ≠ x.j4 by omega)]
  exact hd.s4 lp hg ho
theorem st5 (hx : x.up) (hsel : ∀ cs b, o.op ≠ .select cs b) (hdst : o.dst = none) (hb : p.b < p.W0.heap.size)
    (hrun : ∀ s W, (∀ (b : Nat) (o : Obj), p.W0.heap[b]? = some o → W.heap[b]? = some o) → (∃ a n c, s.v3 = .slice a n c) → (execOp (dk.sets act (ws s)).eval o).run Try.prog W = .ok .skip (W.setCell ⟨p.b, p.j, none⟩ s.v3))
    (hdep : ∃ e ∈ o.after, Region.binds .any e = true ∧ e.on = x.j4) : gh.Step Try.prog (fun s => dk.sets act (ws s)) (C p x) Q x.j5 o := by
  refine gh.step_val hsel fun s L W hdp h0 hC => ⟨s, undef, gh.Agree.refl _ _, (fun d hd => by rw [hdst] at hd; cases hd), ?_⟩
  obtain ⟨xp, mp, yp, zp⟩ := hdep
  have lp := hdp xp mp yp
  rw [zp] at lp
  obtain ⟨u0, u1, u2, u3, u4⟩ := hx
  have hd := hC.d
  rw [h0] at hd
  have hv : ∃ a n c, s.v3 = .slice a n c := by
    obtain ⟨_, ⟨e, _⟩ | ⟨g, cap, cur, e, _⟩⟩ := (hd.at4 lp).2
    · exact ⟨_, _, _, e⟩
    · exact ⟨_, _, _, e⟩
  rw [hrun s W (fun b o hb => bstay hb hd.below (Array.getElem?_eq_some_iff.1 hb).1) hv]
  refine ⟨rfl, ?_⟩
  unfold C
  rw [more_on, more_off L (show x.j0 ≠ x.j5 by omega), more_off L (show x.j1 ≠ x.j5 by omega), more_off L (show x.j2 ≠ x.j5 by omega), more_off L (show x.j3 ≠ x.j5 by omega), more_off L (show x.j4 ≠ x.j5 by omega)]
  exact hd.s5 lp hb
end
/-- when all is done -/
theorem done {p : Pr} {x : J} {g : G} {L : Nat → Bool} {W : World} {N : Nat} (hC : C p x g L W) (hx : x.up) (hN : x.j5 < N) (hL : ∀ i, i < N → L i = true) :
    ∃ V, Below p.W0.heap.size p.W0 V ∧ W = V.setCell ⟨p.b, p.j, none⟩ g.v3 ∧ W.ownsRow p.W0.heap.size p.T p.n g.v3 (p.k + 1 + p.m) (p.xs ++ p.ms ++ p.ys) := by
  have hd := hC.d
  obtain ⟨u0, u1, u2, u3, u4⟩ := hx
  rw [hL x.j4 (by omega), hL x.j5 hN] at hd
  obtain ⟨V, h1, h2⟩ := hd.bel
  exact ⟨V, h1, h2, (hd.at4 rfl).2⟩
/-- nothing is done yet -/
theorem start (p : Pr) (x : J) (g : G) : C p x g (fun _ => false) p.W0.drew :=
  ⟨⟨_, (Below.refl _ _).drew, rfl⟩, fun e => (by cases e), fun e => (by cases e), fun e => (by cases e), fun e => (by cases e), fun e => (by cases e), fun e => (by cases e)⟩
end Go.Proofs.Ytcddjfdikedldaa.ta

/- The specification's Pop: the first message is handed out, or a copy of the queue is; new memory alone. -/
namespace Go.Proofs.Ytcddjfdikedldaa.qos
open Go.ChangeShapes Go.WideShapes Go.ChangeAt Go.RowKit Go.Proofs.Ytcddjfdikedldaa.fl Go.Proofs.Ytcddjfdikedldaa.qsp
set_option linter.unusedVariables false

/-- what stands on the way: the argument's box, the answer's places, the copy -/
structure PX (w : World) (sn : ByteArray) (nx : Int) (es : List flM.Ms) (ms : List flH.Hd) (g h cg ch n8 : Nat) (x2 x3 : Value) (X : World) : Prop where
  bel : Below w.heap.size w X
  box : X.heap[w.heap.size]? = some (.cells #[.string sn, .int .i64 nx, .slice (some ⟨g, 0, none⟩) es.length cg, .slice (some ⟨h, 0, none⟩) ms.length ch] 30 (0, 0))
  res : X.heap[w.heap.size + 1]? = some (.cells #[.string ⟨#[]⟩, .int .i64 0, .slice none 0 0, .slice none 0 0] 30 (0, 0))
  rem : X.heap[w.heap.size + 2]? = some (.cells #[.int .i64 0, .string ⟨#[]⟩, .string ⟨#[]⟩, .string ⟨#[]⟩, .bool false] 38 (0, 0))
  out : X.heap[n8]? = some (.cells #[.string sn, .int .i64 nx, x2, x3] 30 (0, 0))
  h8 : w.heap.size + 3 ≤ n8
section
variable {w : World} {sn : ByteArray} {nx : Int} {es : List flM.Ms} {ms : List flH.Hd} {g h cg ch n8 : Nat} {x2 x3 : Value} {X X' : World}
theorem PX.lt (p : PX w sn nx es ms g h cg ch n8 x2 x3 X) : n8 < X.heap.size := (Array.getElem?_eq_some_iff.1 p.out).1
theorem PX.on (p : PX w sn nx es ms g h cg ch n8 x2 x3 X) (hb : Below X.heap.size X X') : PX w sn nx es ms g h cg ch n8 x2 x3 X' :=
  ⟨p.bel.trans (hb.mono p.bel.size), bstay p.box hb (Array.getElem?_eq_some_iff.1 p.box).1, bstay p.res hb (Array.getElem?_eq_some_iff.1 p.res).1, bstay p.rem hb (Array.getElem?_eq_some_iff.1 p.rem).1, bstay p.out hb (Array.getElem?_eq_some_iff.1 p.out).1, p.h8⟩
theorem PX.grown {b : Nat} (p : PX w sn nx es ms g h cg ch n8 x2 x3 X) (hg : X.grownBy X' (some b)) (hb : n8 < b) : PX w sn nx es ms g h cg ch n8 x2 x3 X' := by
  have h8 := p.h8
  exact ⟨p.bel.grown hg p.bel.size (fun k hk => by cases hk; omega), grown_at hg p.box (by simp; omega), grown_at hg p.res (by simp; omega), grown_at hg p.rem (by simp; omega), grown_at hg p.out (by simp; omega), h8⟩
theorem PX.put2 (p : PX w sn nx es ms g h cg ch n8 x2 x3 X) (v : Value) : PX w sn nx es ms g h cg ch n8 v x3 (X.setCell ⟨n8, 2, none⟩ v) := by
  have h8 := p.h8
  exact ⟨p.bel.setCell (by show w.heap.size ≤ n8; omega) _, boff p.box _ _ _ (by omega), boff p.res _ _ _ (by omega), boff p.rem _ _ _ (by omega), bset p.out 2 v, h8⟩
theorem PX.put3 (p : PX w sn nx es ms g h cg ch n8 x2 x3 X) (v : Value) : PX w sn nx es ms g h cg ch n8 x2 v (X.setCell ⟨n8, 3, none⟩ v) := by
  have h8 := p.h8
  exact ⟨p.bel.setCell (by show w.heap.size ≤ n8; omega) _, boff p.box _ _ _ (by omega), boff p.res _ _ _ (by omega), boff p.rem _ _ _ (by omega), bset p.out 3 v, h8⟩
end
theorem rowM {w : World} {B g cap : Nat} {l : List flM.Ms} (hh : w.ownsRow B 38 5 (.slice (some ⟨g, 0, none⟩) l.length cap) l.length (l.flatMap flM.c)) : Row flM.c 5 w w.heap.size (some ⟨g, 0, none⟩) l := by
  obtain ⟨a, cap', hv, hr⟩ := own_row flM.c_len hh
  cases hv
  exact hr
theorem rowH {w : World} {B g cap : Nat} {l : List flH.Hd} (hh : w.ownsRow B 66 7 (.slice (some ⟨g, 0, none⟩) l.length cap) l.length (l.flatMap flH.c)) : Row flH.c 7 w w.heap.size (some ⟨g, 0, none⟩) l := by
  obtain ⟨a, cap', hv, hr⟩ := own_row flH.c_len hh
  cases hv
  exact hr
theorem first_px (sn : ByteArray) (nx : Int) (es : List flM.Ms) (ms : List flH.Hd) (g h cg ch : Nat) (w w1 : World) (g1 c1 h1 c2 : Nat) (hb : Below (((w.alloc (.cells #[.string sn, .int .i64 nx, .slice (some ⟨g, 0, none⟩) es.length cg, .slice (some ⟨h, 0, none⟩) ms.length ch] 30)).alloc (.cells #[.string ⟨#[]⟩, .int .i64 0, .slice none 0 0, .slice none 0 0] 30)).alloc (.cells #[.int .i64 0, .string ⟨#[]⟩, .string ⟨#[]⟩, .string ⟨#[]⟩, .bool false] 38)).heap.size (((w.alloc (.cells #[.string sn, .int .i64 nx, .slice (some ⟨g, 0, none⟩) es.length cg, .slice (some ⟨h, 0, none⟩) ms.length ch] 30)).alloc (.cells #[.string ⟨#[]⟩, .int .i64 0, .slice none 0 0, .slice none 0 0] 30)).alloc (.cells #[.int .i64 0, .string ⟨#[]⟩, .string ⟨#[]⟩, .string ⟨#[]⟩, .bool false] 38)) w1)
    (oe : w1.ownsRow (((w.alloc (.cells #[.string sn, .int .i64 nx, .slice (some ⟨g, 0, none⟩) es.length cg, .slice (some ⟨h, 0, none⟩) ms.length ch] 30)).alloc (.cells #[.string ⟨#[]⟩, .int .i64 0, .slice none 0 0, .slice none 0 0] 30)).alloc (.cells #[.int .i64 0, .string ⟨#[]⟩, .string ⟨#[]⟩, .string ⟨#[]⟩, .bool false] 38)).heap.size 38 5 (.slice (some ⟨g1, 0, none⟩) es.length c1) es.length (es.flatMap flM.c)) (om : w1.ownsRow (((w.alloc (.cells #[.string sn, .int .i64 nx, .slice (some ⟨g, 0, none⟩) es.length cg, .slice (some ⟨h, 0, none⟩) ms.length ch] 30)).alloc (.cells #[.string ⟨#[]⟩, .int .i64 0, .slice none 0 0, .slice none 0 0] 30)).alloc (.cells #[.int .i64 0, .string ⟨#[]⟩, .string ⟨#[]⟩, .string ⟨#[]⟩, .bool false] 38)).heap.size 66 7 (.slice (some ⟨h1, 0, none⟩) ms.length c2) ms.length (ms.flatMap flH.c)) :
    PX w sn nx es ms g h cg ch w1.heap.size (.slice (some ⟨g1, 0, none⟩) es.length c1) (.slice (some ⟨h1, 0, none⟩) ms.length c2) (w1.alloc (.cells #[.string sn, .int .i64 nx, (.slice (some ⟨g1, 0, none⟩) es.length c1), (.slice (some ⟨h1, 0, none⟩) ms.length c2)] 30)) ∧ (w1.alloc (.cells #[.string sn, .int .i64 nx, (.slice (some ⟨g1, 0, none⟩) es.length c1), (.slice (some ⟨h1, 0, none⟩) ms.length c2)] 30)).ownsRow (w.heap.size + 3) 38 5 (.slice (some ⟨g1, 0, none⟩) es.length c1) es.length (es.flatMap flM.c) ∧ (w1.alloc (.cells #[.string sn, .int .i64 nx, (.slice (some ⟨g1, 0, none⟩) es.length c1), (.slice (some ⟨h1, 0, none⟩) ms.length c2)] 30)).ownsRow (w.heap.size + 3) 66 7 (.slice (some ⟨h1, 0, none⟩) ms.length c2) ms.length (ms.flatMap flH.c) := by
  have hS : (((w.alloc (.cells #[.string sn, .int .i64 nx, .slice (some ⟨g, 0, none⟩) es.length cg, .slice (some ⟨h, 0, none⟩) ms.length ch] 30)).alloc (.cells #[.string ⟨#[]⟩, .int .i64 0, .slice none 0 0, .slice none 0 0] 30)).alloc (.cells #[.int .i64 0, .string ⟨#[]⟩, .string ⟨#[]⟩, .string ⟨#[]⟩, .bool false] 38)).heap.size = w.heap.size + 3 := by simp
  have hW : Below w.heap.size w (((w.alloc (.cells #[.string sn, .int .i64 nx, .slice (some ⟨g, 0, none⟩) es.length cg, .slice (some ⟨h, 0, none⟩) ms.length ch] 30)).alloc (.cells #[.string ⟨#[]⟩, .int .i64 0, .slice none 0 0, .slice none 0 0] 30)).alloc (.cells #[.int .i64 0, .string ⟨#[]⟩, .string ⟨#[]⟩, .string ⟨#[]⟩, .bool false] 38)) := (((Below.refl _ _).alloc (Nat.le_refl _) _).alloc (by simp) _).alloc (by simp; omega) _
  have hA := bold (bold (bnew w #[.string sn, .int .i64 nx, .slice (some ⟨g, 0, none⟩) es.length cg, .slice (some ⟨h, 0, none⟩) ms.length ch] 30) (.cells #[.string ⟨#[]⟩, .int .i64 0, .slice none 0 0, .slice none 0 0] 30)) (.cells #[.int .i64 0, .string ⟨#[]⟩, .string ⟨#[]⟩, .string ⟨#[]⟩, .bool false] 38)
  have hR := bold (bnew (w.alloc (.cells #[.string sn, .int .i64 nx, .slice (some ⟨g, 0, none⟩) es.length cg, .slice (some ⟨h, 0, none⟩) ms.length ch] 30)) #[.string ⟨#[]⟩, .int .i64 0, .slice none 0 0, .slice none 0 0] 30) (.cells #[.int .i64 0, .string ⟨#[]⟩, .string ⟨#[]⟩, .string ⟨#[]⟩, .bool false] 38)
  have hM := bnew ((w.alloc (.cells #[.string sn, .int .i64 nx, .slice (some ⟨g, 0, none⟩) es.length cg, .slice (some ⟨h, 0, none⟩) ms.length ch] 30)).alloc (.cells #[.string ⟨#[]⟩, .int .i64 0, .slice none 0 0, .slice none 0 0] 30)) #[.int .i64 0, .string ⟨#[]⟩, .string ⟨#[]⟩, .string ⟨#[]⟩, .bool false] 38
  have hsz2 : ((w.alloc (.cells #[.string sn, .int .i64 nx, .slice (some ⟨g, 0, none⟩) es.length cg, .slice (some ⟨h, 0, none⟩) ms.length ch] 30)).alloc (.cells #[.string ⟨#[]⟩, .int .i64 0, .slice none 0 0, .slice none 0 0] 30)).heap.size = w.heap.size + 2 := by simp
  rw [World.size_alloc] at hR
  rw [hsz2] at hM
  have hs1 := hb.size
  rw [hS] at oe om
  exact ⟨⟨(hW.trans (hb.mono hW.size)).alloc (by omega) _, bold (bstay hA hb (by omega)) _, bold (bstay hR hb (by omega)) _, bold (bstay hM hb (by omega)) _, bnew w1 _ _, by omega⟩, oe.alloc _, om.alloc _⟩
/-- the tag and the owner of a held one; ahead of a place none is late -/
theorem cellH {w : World} {B g k : Nat} {l : List flH.Hd} {e : flH.Hd} (h : Row flH.c 7 w B (some ⟨g, 0, none⟩) l) (he : l[k]? = some e) : w.cell? ⟨g, k * 7, none⟩ = some (.int .i64 e.t) ∧ w.cell? ⟨g, k * 7 + 1, none⟩ = some (.int .i64 e.o) := by
  rcases h with h0 | ⟨b', off', hh, hlt, hc⟩
  · rw [h0] at he; simp at he
  · cases hh
    have h1 := hc k _ he 0 _ rfl
    have h2 := hc k _ he 1 _ rfl
    simp only [Nat.zero_add, Nat.add_zero] at h1 h2
    exact ⟨h1, h2⟩
theorem cellM {w : World} {B g : Nat} {l : List flM.Ms} {e : flM.Ms} (h : Row flM.c 5 w B (some ⟨g, 0, none⟩) l) (he : l[0]? = some e) : w.cell? ⟨g, 0, none⟩ = some (.int .i64 e.q) ∧ w.cell? ⟨g, 1, none⟩ = some (.string e.x) ∧ w.cell? ⟨g, 2, none⟩ = some (.string e.k) ∧ w.cell? ⟨g, 3, none⟩ = some (.string e.b) ∧ w.cell? ⟨g, 4, none⟩ = some (.bool e.a) := by
  rcases h with h0 | ⟨b', off', hh, hlt, hc⟩
  · rw [h0] at he; simp at he
  · cases hh
    have h0 := hc 0 _ he 0 _ rfl
    have h1 := hc 0 _ he 1 _ rfl
    have h2 := hc 0 _ he 2 _ rfl
    have h3 := hc 0 _ he 3 _ rfl
    have h4 := hc 0 _ he 4 _ rfl
    simp only [Nat.zero_add, Nat.zero_mul] at h0 h1 h2 h3 h4
    exact ⟨h0, h1, h2, h3, h4⟩
theorem newsT {w : World} {B g : Nat} {l : List flM.Ms} {e : flM.Ms} (h : Row flM.c 5 w B (some ⟨g, 0, none⟩) l) (he : l = e :: l.tail) : ∀ (j : Nat) (u : Value), (l.tail.flatMap flM.c)[j]? = some u → w.cell? ((⟨g, 5, none⟩ : Addr).add j) = some u := fun j u hu => by
  have hh := newsR flM.c_len h (5 + j) u (by rw [he, List.flatMap_cons, List.getElem?_append_right (by simp [flM.c]), flM.c_len, show 5 + j - 5 = j by omega]; exact hu)
  rw [add_at] at hh ⊢
  rwa [Nat.zero_add] at hh
theorem box5 {W : World} {b : Nat} {x0 x1 x2 x3 x4 : Value} {U : TypeId} (h : W.heap[b]? = some (.cells #[x0, x1, x2, x3, x4] U (0, 0))) : W.cell? ⟨b, 0, none⟩ = some x0 ∧ W.cell? ⟨b, 1, none⟩ = some x1 ∧ W.cell? ⟨b, 2, none⟩ = some x2 ∧ W.cell? ⟨b, 3, none⟩ = some x3 ∧ W.cell? ⟨b, 4, none⟩ = some x4 := ⟨bcell h rfl, bcell h rfl, bcell h rfl, bcell h rfl, bcell h rfl⟩
theorem form_pos {W : World} {B n s : Nat} {U : TypeId} {v : Value} {xs : List Value} (h : W.ownsRow B U s v n xs) (hn : 0 < n) : ∃ g cap, v = .slice (some ⟨g, 0, none⟩) n cap := by
  obtain ⟨_, ⟨_, h0⟩ | ⟨g, cap, cur, rfl, _⟩⟩ := h
  · omega
  · exact ⟨g, cap, rfl⟩
theorem take_drop_flat (l : List flH.Hd) (k : Nat) : l.flatMap flH.c = (l.take k).flatMap flH.c ++ (l.drop k).flatMap flH.c := by rw [← List.flatMap_append, List.take_append_drop]
theorem news_take {w : World} {B g : Nat} {l : List flH.Hd} (h : Row flH.c 7 w B (some ⟨g, 0, none⟩) l) (k : Nat) : ∀ (j : Nat) (u : Value), ((l.take k).flatMap flH.c)[j]? = some u → w.cell? ((⟨g, 0, none⟩ : Addr).add j) = some u := fun j u hu => by
  refine newsR flH.c_len h j u ?_
  rw [take_drop_flat l k, List.getElem?_append_left (List.getElem?_eq_some_iff.1 hu).1]
  exact hu
/-- where what is behind a place lies: a slice with no room lies at its block's first cell -/
def off (k n : Nat) : Nat := if k = n then 0 else k * 7
theorem news_drop {w : World} {B g : Nat} {l : List flH.Hd} (h : Row flH.c 7 w B (some ⟨g, 0, none⟩) l) (k : Nat) (hk : k ≤ l.length) : ∀ (j : Nat) (u : Value), ((l.drop k).flatMap flH.c)[j]? = some u → w.cell? ((⟨g, off k l.length, none⟩ : Addr).add j) = some u := fun j u hu => by
  unfold off
  split
  · rename_i he
    subst he
    rw [List.drop_eq_nil_of_le (Nat.le_refl _)] at hu
    simp at hu
  · have hlen : ((l.take k).flatMap flH.c).length = k * 7 := by rw [flat_len flH.c_len, List.length_take, Nat.min_eq_left hk]
    have hh := newsR flH.c_len h (k * 7 + j) u (by rw [take_drop_flat l k, List.getElem?_append_right (by omega), hlen, show k * 7 + j - k * 7 = j by omega]; exact hu)
    rw [add_at] at hh ⊢
    rwa [Nat.zero_add] at hh
def ws (s n a0 n8 k of : Nat) (o t q : Int) (x y z : ByteArray) (ag : Bool) (g : ta.G) : List (Nat × Value) := [(83, .slice (some ⟨g.e0, 0, none⟩) 0 0), (84, .pointer (some ⟨s, 3, none⟩)), (85, .slice (some ⟨a0, 0, none⟩) n n), (86, .int .i64 k), (87, .slice (some ⟨a0, 0, none⟩) k n), (88, g.v1), (89, .int .i64 t), (90, .int .i64 o), (91, .agg #[.int .i64 q, .string x, .string y, .string z, .bool ag]), (92, .agg #[.int .i64 t, .int .i64 o, .int .i64 q, .string x, .string y, .string z, .bool ag]), (93, .slice (some ⟨g.h, 0, none⟩) 1 1), (94, g.v2), (95, .pointer (some ⟨s, 3, none⟩)), (96, .slice (some ⟨a0, 0, none⟩) n n), (97, .int .i64 k), (98, .slice (some ⟨a0, of, none⟩) (n - k) (n - k)), (99, g.v3), (100, .pointer (some ⟨n8, 3, none⟩))]
def J0 : ta.J := ⟨0, 5, 10, 11, 16, 18⟩
theorem J0_up : J0.up := by unfold ta.J.up J0; decide
theorem any_take {o t : Int} {ms : List flH.Hd} {k : Nat} {h : flH.Hd} (hk : ms[k]? = some h) (h0 : (ms.take k).any (qpp.late o t) = false) : (ms.take (k + 1)).any (qpp.late o t) = qpp.late o t h := by
  rw [List.take_add_one, hk, List.any_append, h0]
  simp
theorem any_late {o t : Int} {ms : List flH.Hd} {k : Nat} {h : flH.Hd} (hk : ms[k]? = some h) (hl : qpp.late o t h = true) : ms.any (qpp.late o t) = true := List.any_eq_true.2 ⟨h, List.mem_of_getElem? hk, hl⟩

/-- the answer -/
def SA (w : World) (sn : ByteArray) (nx : Int) (L : List flM.Ms) (H : List flH.Hd) (m : flM.Ms) (f : Bool) (e : Ending) (w' : World) : Prop := ∃ sa ce sb cb, e = .returned (.tuple #[.agg #[.string sn, .int .i64 nx, .slice sa L.length ce, .slice sb H.length cb], .agg #[.int .i64 m.q, .string m.x, .string m.k, .string m.b, .bool m.a], .bool f]) ∧ Row flM.c 5 w' w'.heap.size sa L ∧ Row flH.c 7 w' w'.heap.size sb H ∧ Below w.heap.size w w'

set_option maxRecDepth 100000 in
set_option maxHeartbeats 4000000 in
theorem spec_pop (sn : ByteArray) (nx : Int) (es : List flM.Ms) (ms : List flH.Hd) (g h cg ch : Nat) (o t : Int) (w : World) (F : Fit sn es ms) (hcg : cg = es.length) (hch : ch = ms.length) (hY : Row flM.c 5 w w.heap.size (some ⟨g, 0, none⟩) es) (hE : Row flH.c 7 w w.heap.size (some ⟨h, 0, none⟩) ms) :
    Calls Try.prog 14 #[.agg #[.string sn, .int .i64 nx, .slice (some ⟨g, 0, none⟩) es.length cg, .slice (some ⟨h, 0, none⟩) ms.length ch], .int .i64 o, .int .i64 t] w fun e w' => SA w sn nx (qpp.ansR sn nx es ms o t) (qpp.ansH sn nx es ms o t) (qpp.ansM sn nx es ms o t) (qpp.good sn nx es ms o t) e w' := by
  have hWb : Below w.heap.size w (((w.alloc (.cells #[.string sn, .int .i64 nx, .slice (some ⟨g, 0, none⟩) es.length cg, .slice (some ⟨h, 0, none⟩) ms.length ch] 30)).alloc (.cells #[.string ⟨#[]⟩, .int .i64 0, .slice none 0 0, .slice none 0 0] 30)).alloc (.cells #[.int .i64 0, .string ⟨#[]⟩, .string ⟨#[]⟩, .string ⟨#[]⟩, .bool false] 38)) := (((Below.refl _ _).alloc (Nat.le_refl _) _).alloc (by simp) _).alloc (by simp; omega) _
  have hcopy := spec_copy sn nx es ms g h cg ch (((w.alloc (.cells #[.string sn, .int .i64 nx, .slice (some ⟨g, 0, none⟩) es.length cg, .slice (some ⟨h, 0, none⟩) ms.length ch] 30)).alloc (.cells #[.string ⟨#[]⟩, .int .i64 0, .slice none 0 0, .slice none 0 0] 30)).alloc (.cells #[.int .i64 0, .string ⟨#[]⟩, .string ⟨#[]⟩, .string ⟨#[]⟩, .bool false] 38)) F (hY.inn hWb) (hE.inn hWb)
  have HF : Hid (Fit sn es ms) := F
  have hml := HF.out.ml
  have hel0 := HF.out.el
  have HCG : Hid (cg = es.length ∧ ch = ms.length) := ⟨hcg, hch⟩
  have HY : Hid (Row flM.c 5 w w.heap.size (some ⟨g, 0, none⟩) es) := hY
  have HE : Hid (Row flH.c 7 w w.heap.size (some ⟨h, 0, none⟩) ms) := hE
  have HAR : Hid (qpp.ansR sn nx es ms o t = if qpp.good sn nx es ms o t = true then es.tail else es) := rfl
  have HAH : Hid (qpp.ansH sn nx es ms o t = if qpp.good sn nx es ms o t = true then ms.take (qpp.atO o ms ms.length) ++ ⟨t, o, qpp.headM es⟩ :: ms.drop (qpp.atO o ms ms.length) else ms) := rfl
  have HAM : Hid (qpp.ansM sn nx es ms o t = if qpp.good sn nx es ms o t = true then qpp.headM es else qpp.headM []) := rfl
  have HGD : Hid (qpp.good sn nx es ms o t = (okB sn nx es ms && qpp.hand o t && !es.isEmpty && !ms.any (qpp.late o t))) := rfl
  obtain ⟨AR, hAR⟩ : ∃ y, qpp.ansR sn nx es ms o t = y := ⟨_, rfl⟩
  obtain ⟨AH, hAH⟩ : ∃ y, qpp.ansH sn nx es ms o t = y := ⟨_, rfl⟩
  obtain ⟨AM, hAM⟩ : ∃ y, qpp.ansM sn nx es ms o t = y := ⟨_, rfl⟩
  obtain ⟨GD, hGD⟩ : ∃ y, qpp.good sn nx es ms o t = y := ⟨_, rfl⟩
  rw [hAR, hGD] at HAR
  rw [hAH, hGD] at HAH
  rw [hAM, hGD] at HAM
  rw [hGD] at HGD
  have HGD : Hid ((okB sn nx es ms && (decide (0 ≤ o ∧ o ≤ 1000) && decide (1 ≤ t ∧ t ≤ 1000000000)) && !es.isEmpty && !ms.any (qpp.late o t)) = GD) := HGD.out.symm
  simp only [hAR, hAH, hAM, hGD]
  clear hcg hch hY hE F hAR hAH hAM hGD
  go_enter Try.func14, Try.ntmps14
  go_wp2_with (go_at_call 23; fail)
  refine hcopy.mono ?_
  rintro e w1 ⟨g1, c1, h1, c2, rfl, oe1, om1, _, hb1⟩
  obtain ⟨hp, ho1, ho2⟩ := first_px sn nx es ms g h cg ch w w1 g1 c1 h1 c2 hb1 oe1 om1
  obtain ⟨X, hX⟩ : ∃ X, w1.alloc (.cells #[.string sn, .int .i64 nx, (.slice (some ⟨g1, 0, none⟩) es.length c1), (.slice (some ⟨h1, 0, none⟩) ms.length c2)] 30) = X := ⟨_, rfl⟩
  rw [hX] at hp ho1 ho2
  have HPX : Hid (PX w sn nx es ms g h cg ch w1.heap.size (.slice (some ⟨g1, 0, none⟩) es.length c1) (.slice (some ⟨h1, 0, none⟩) ms.length c2) X) := hp
  have HOE : Hid (X.ownsRow (w.heap.size + 3) 38 5 (.slice (some ⟨g1, 0, none⟩) es.length c1) es.length (es.flatMap flM.c)) := ho1
  have HOH : Hid (X.ownsRow (w.heap.size + 3) 66 7 (.slice (some ⟨h1, 0, none⟩) ms.length c2) ms.length (ms.flatMap flH.c)) := ho2
  have x0 : X.cell? ⟨w.heap.size, 0, none⟩ = some (.string sn) := bcell hp.box rfl
  have x1 : X.cell? ⟨w.heap.size, 1, none⟩ = some (.int .i64 nx) := bcell hp.box rfl
  have x2 : X.cell? ⟨w.heap.size, 2, none⟩ = some (.slice (some ⟨g, 0, none⟩) es.length cg) := bcell hp.box rfl
  have x3 : X.cell? ⟨w.heap.size, 3, none⟩ = some (.slice (some ⟨h, 0, none⟩) ms.length ch) := bcell hp.box rfl
  have hok := spec_okb sn nx es ms g h cg ch X HF.out (HY.out.inn hp.bel) (HE.out.inn hp.bel)
  clear hcopy oe1 om1 hb1 hWb hp ho1 ho2
  obtain ⟨ob, hob⟩ : ∃ ob, okB sn nx es ms = ob := ⟨_, rfl⟩
  rw [hob] at hok HGD
  go_wp2_with (go_at_call 24; fail)
  clear hX x0 x1 x2 x3
  refine hok.mono ?_
  rintro e w2 ⟨rfl, hb2⟩
  clear hok
  cases ob with
  | false =>
    obtain rfl : GD = false := by rw [← HGD.out]; exact rfl
    obtain rfl : es = AR := HAR.out.symm
    obtain rfl : ms = AH := HAH.out.symm
    obtain rfl : qpp.headM [] = AM := HAM.out.symm
    clear HAR HAH HAM HGD
    have hp9 := HPX.out.on hb2
    have z0 : w2.cell? ⟨w.heap.size + 1, 0, none⟩ = some (.string ⟨#[]⟩) := bcell hp9.res rfl
    have z1 : w2.cell? ⟨w.heap.size + 1, 1, none⟩ = some (.int .i64 0) := bcell hp9.res rfl
    have z2 : w2.cell? ⟨w.heap.size + 1, 2, none⟩ = some (.slice none 0 0) := bcell hp9.res rfl
    have z3 : w2.cell? ⟨w.heap.size + 1, 3, none⟩ = some (.slice none 0 0) := bcell hp9.res rfl
    have y0 : w2.cell? ⟨w.heap.size + 2, 0, none⟩ = some (.int .i64 0) := bcell hp9.rem rfl
    have y1 : w2.cell? ⟨w.heap.size + 2, 1, none⟩ = some (.string ⟨#[]⟩) := bcell hp9.rem rfl
    have y2 : w2.cell? ⟨w.heap.size + 2, 2, none⟩ = some (.string ⟨#[]⟩) := bcell hp9.rem rfl
    have y3 : w2.cell? ⟨w.heap.size + 2, 3, none⟩ = some (.string ⟨#[]⟩) := bcell hp9.rem rfl
    have y4 : w2.cell? ⟨w.heap.size + 2, 4, none⟩ = some (.bool false) := bcell hp9.rem rfl
    have f0 := bfree hp9.res 0
    have f1 := bfree hp9.res 1
    have f2 := bfree hp9.res 2
    have f3 := bfree hp9.res 3
    have e0 := bfree hp9.rem 0
    have e1 := bfree hp9.rem 1
    have e2 := bfree hp9.rem 2
    have e3 := bfree hp9.rem 3
    have e4 := bfree hp9.rem 4
    have n0 : w2.cell? ⟨w1.heap.size, 0, none⟩ = some (.string sn) := bcell hp9.out rfl
    have n1 : w2.cell? ⟨w1.heap.size, 1, none⟩ = some (.int .i64 nx) := bcell hp9.out rfl
    have n2 : w2.cell? ⟨w1.heap.size, 2, none⟩ = some (.slice (some ⟨g1, 0, none⟩) es.length c1) := bcell hp9.out rfl
    have n3 : w2.cell? ⟨w1.heap.size, 3, none⟩ = some (.slice (some ⟨h1, 0, none⟩) ms.length c2) := bcell hp9.out rfl
    have hne1 : w1.heap.size ≠ w.heap.size + 1 := by have := hp9.h8; omega
    have hne2 : w1.heap.size ≠ w.heap.size + 2 := by have := hp9.h8; omega
    have hne3 : w.heap.size + 1 ≠ w1.heap.size := by have := hp9.h8; omega
    have hne4 : w.heap.size + 2 ≠ w1.heap.size := by have := hp9.h8; omega
    have HFN : Hid (w2.ownsRow (w.heap.size + 3) 38 5 (.slice (some ⟨g1, 0, none⟩) es.length c1) es.length (es.flatMap flM.c) ∧ w2.ownsRow (w.heap.size + 3) 66 7 (.slice (some ⟨h1, 0, none⟩) ms.length c2) ms.length (ms.flatMap flH.c) ∧ Below w.heap.size w w2) := ⟨own_stay HOE.out hb2, own_stay HOH.out hb2, hp9.bel⟩
    clear hp9
    go_wp2
    refine bodyPost_ret (v := .tuple #[.agg #[.string sn, .int .i64 nx, .slice (some ⟨g1, 0, none⟩) es.length c1, .slice (some ⟨h1, 0, none⟩) ms.length c2], .agg #[.int .i64 0, .string ⟨#[]⟩, .string ⟨#[]⟩, .string ⟨#[]⟩, .bool false], .bool false]) (by simp [results, Try.results14, go_sem, z0, z1, z2, z3, y0, y1, y2, y3, y4]) rfl ⟨_, _, _, _, rfl, ?_, ?_, ?_⟩
    · exact rowM (own_set (own_set (own_set (own_set (own_set (own_set (own_set (own_set (own_set (HFN.out.1) _ _ _ (by first | (show w.heap.size + 1 < w.heap.size + 3; omega) | (show w.heap.size + 2 < w.heap.size + 3; omega))) _ _ _ (by first | (show w.heap.size + 1 < w.heap.size + 3; omega) | (show w.heap.size + 2 < w.heap.size + 3; omega))) _ _ _ (by first | (show w.heap.size + 1 < w.heap.size + 3; omega) | (show w.heap.size + 2 < w.heap.size + 3; omega))) _ _ _ (by first | (show w.heap.size + 1 < w.heap.size + 3; omega) | (show w.heap.size + 2 < w.heap.size + 3; omega))) _ _ _ (by first | (show w.heap.size + 1 < w.heap.size + 3; omega) | (show w.heap.size + 2 < w.heap.size + 3; omega))) _ _ _ (by first | (show w.heap.size + 1 < w.heap.size + 3; omega) | (show w.heap.size + 2 < w.heap.size + 3; omega))) _ _ _ (by first | (show w.heap.size + 1 < w.heap.size + 3; omega) | (show w.heap.size + 2 < w.heap.size + 3; omega))) _ _ _ (by first | (show w.heap.size + 1 < w.heap.size + 3; omega) | (show w.heap.size + 2 < w.heap.size + 3; omega))) _ _ _ (by first | (show w.heap.size + 1 < w.heap.size + 3; omega) | (show w.heap.size + 2 < w.heap.size + 3; omega)))
    · exact rowH (own_set (own_set (own_set (own_set (own_set (own_set (own_set (own_set (own_set (HFN.out.2.1) _ _ _ (by first | (show w.heap.size + 1 < w.heap.size + 3; omega) | (show w.heap.size + 2 < w.heap.size + 3; omega))) _ _ _ (by first | (show w.heap.size + 1 < w.heap.size + 3; omega) | (show w.heap.size + 2 < w.heap.size + 3; omega))) _ _ _ (by first | (show w.heap.size + 1 < w.heap.size + 3; omega) | (show w.heap.size + 2 < w.heap.size + 3; omega))) _ _ _ (by first | (show w.heap.size + 1 < w.heap.size + 3; omega) | (show w.heap.size + 2 < w.heap.size + 3; omega))) _ _ _ (by first | (show w.heap.size + 1 < w.heap.size + 3; omega) | (show w.heap.size + 2 < w.heap.size + 3; omega))) _ _ _ (by first | (show w.heap.size + 1 < w.heap.size + 3; omega) | (show w.heap.size + 2 < w.heap.size + 3; omega))) _ _ _ (by first | (show w.heap.size + 1 < w.heap.size + 3; omega) | (show w.heap.size + 2 < w.heap.size + 3; omega))) _ _ _ (by first | (show w.heap.size + 1 < w.heap.size + 3; omega) | (show w.heap.size + 2 < w.heap.size + 3; omega))) _ _ _ (by first | (show w.heap.size + 1 < w.heap.size + 3; omega) | (show w.heap.size + 2 < w.heap.size + 3; omega)))
    · exact (((((((((HFN.out.2.2).setCell (by first | (show w.heap.size ≤ w.heap.size + 1; omega) | (show w.heap.size ≤ w.heap.size + 2; omega)) _).setCell (by first | (show w.heap.size ≤ w.heap.size + 1; omega) | (show w.heap.size ≤ w.heap.size + 2; omega)) _).setCell (by first | (show w.heap.size ≤ w.heap.size + 1; omega) | (show w.heap.size ≤ w.heap.size + 2; omega)) _).setCell (by first | (show w.heap.size ≤ w.heap.size + 1; omega) | (show w.heap.size ≤ w.heap.size + 2; omega)) _).setCell (by first | (show w.heap.size ≤ w.heap.size + 1; omega) | (show w.heap.size ≤ w.heap.size + 2; omega)) _).setCell (by first | (show w.heap.size ≤ w.heap.size + 1; omega) | (show w.heap.size ≤ w.heap.size + 2; omega)) _).setCell (by first | (show w.heap.size ≤ w.heap.size + 1; omega) | (show w.heap.size ≤ w.heap.size + 2; omega)) _).setCell (by first | (show w.heap.size ≤ w.heap.size + 1; omega) | (show w.heap.size ≤ w.heap.size + 2; omega)) _).setCell (by first | (show w.heap.size ≤ w.heap.size + 1; omega) | (show w.heap.size ≤ w.heap.size + 2; omega)) _
  | true =>
    obtain ⟨d1, hd1⟩ : ∃ d, decide (0 ≤ o ∧ o ≤ 1000) = d := ⟨_, rfl⟩
    obtain ⟨d2, hd2⟩ : ∃ d, decide (1 ≤ t ∧ t ≤ 1000000000) = d := ⟨_, rfl⟩
    have k1 := qhd.within o 0 1000 w2
    have k2 := qhd.within t 1 1000000000 w2
    rw [hd1] at k1 HGD
    rw [hd2] at k2 HGD
    clear hd1 hd2
    go_wp2_with (go_at_call 39; fail)
    refine k1.mono ?_
    rintro e wh ⟨rfl, hwh⟩
    obtain rfl := hwh
    clear k1
    cases d1 with
    | false =>
      obtain rfl : GD = false := by rw [← HGD.out]; exact rfl
      obtain rfl : es = AR := HAR.out.symm
      obtain rfl : ms = AH := HAH.out.symm
      obtain rfl : qpp.headM [] = AM := HAM.out.symm
      clear HAR HAH HAM HGD
      have hp9 := HPX.out.on hb2
      have z0 : w2.cell? ⟨w.heap.size + 1, 0, none⟩ = some (.string ⟨#[]⟩) := bcell hp9.res rfl
      have z1 : w2.cell? ⟨w.heap.size + 1, 1, none⟩ = some (.int .i64 0) := bcell hp9.res rfl
      have z2 : w2.cell? ⟨w.heap.size + 1, 2, none⟩ = some (.slice none 0 0) := bcell hp9.res rfl
      have z3 : w2.cell? ⟨w.heap.size + 1, 3, none⟩ = some (.slice none 0 0) := bcell hp9.res rfl
      have y0 : w2.cell? ⟨w.heap.size + 2, 0, none⟩ = some (.int .i64 0) := bcell hp9.rem rfl
      have y1 : w2.cell? ⟨w.heap.size + 2, 1, none⟩ = some (.string ⟨#[]⟩) := bcell hp9.rem rfl
      have y2 : w2.cell? ⟨w.heap.size + 2, 2, none⟩ = some (.string ⟨#[]⟩) := bcell hp9.rem rfl
      have y3 : w2.cell? ⟨w.heap.size + 2, 3, none⟩ = some (.string ⟨#[]⟩) := bcell hp9.rem rfl
      have y4 : w2.cell? ⟨w.heap.size + 2, 4, none⟩ = some (.bool false) := bcell hp9.rem rfl
      have f0 := bfree hp9.res 0
      have f1 := bfree hp9.res 1
      have f2 := bfree hp9.res 2
      have f3 := bfree hp9.res 3
      have e0 := bfree hp9.rem 0
      have e1 := bfree hp9.rem 1
      have e2 := bfree hp9.rem 2
      have e3 := bfree hp9.rem 3
      have e4 := bfree hp9.rem 4
      have n0 : w2.cell? ⟨w1.heap.size, 0, none⟩ = some (.string sn) := bcell hp9.out rfl
      have n1 : w2.cell? ⟨w1.heap.size, 1, none⟩ = some (.int .i64 nx) := bcell hp9.out rfl
      have n2 : w2.cell? ⟨w1.heap.size, 2, none⟩ = some (.slice (some ⟨g1, 0, none⟩) es.length c1) := bcell hp9.out rfl
      have n3 : w2.cell? ⟨w1.heap.size, 3, none⟩ = some (.slice (some ⟨h1, 0, none⟩) ms.length c2) := bcell hp9.out rfl
      have hne1 : w1.heap.size ≠ w.heap.size + 1 := by have := hp9.h8; omega
      have hne2 : w1.heap.size ≠ w.heap.size + 2 := by have := hp9.h8; omega
      have hne3 : w.heap.size + 1 ≠ w1.heap.size := by have := hp9.h8; omega
      have hne4 : w.heap.size + 2 ≠ w1.heap.size := by have := hp9.h8; omega
      have HFN : Hid (w2.ownsRow (w.heap.size + 3) 38 5 (.slice (some ⟨g1, 0, none⟩) es.length c1) es.length (es.flatMap flM.c) ∧ w2.ownsRow (w.heap.size + 3) 66 7 (.slice (some ⟨h1, 0, none⟩) ms.length c2) ms.length (ms.flatMap flH.c) ∧ Below w.heap.size w w2) := ⟨own_stay HOE.out hb2, own_stay HOH.out hb2, hp9.bel⟩
      clear hp9
      go_wp2
      refine bodyPost_ret (v := .tuple #[.agg #[.string sn, .int .i64 nx, .slice (some ⟨g1, 0, none⟩) es.length c1, .slice (some ⟨h1, 0, none⟩) ms.length c2], .agg #[.int .i64 0, .string ⟨#[]⟩, .string ⟨#[]⟩, .string ⟨#[]⟩, .bool false], .bool false]) (by simp [results, Try.results14, go_sem, z0, z1, z2, z3, y0, y1, y2, y3, y4]) rfl ⟨_, _, _, _, rfl, ?_, ?_, ?_⟩
      · exact rowM (own_set (own_set (own_set (own_set (own_set (own_set (own_set (own_set (own_set (HFN.out.1) _ _ _ (by first | (show w.heap.size + 1 < w.heap.size + 3; omega) | (show w.heap.size + 2 < w.heap.size + 3; omega))) _ _ _ (by first | (show w.heap.size + 1 < w.heap.size + 3; omega) | (show w.heap.size + 2 < w.heap.size + 3; omega))) _ _ _ (by first | (show w.heap.size + 1 < w.heap.size + 3; omega) | (show w.heap.size + 2 < w.heap.size + 3; omega))) _ _ _ (by first | (show w.heap.size + 1 < w.heap.size + 3; omega) | (show w.heap.size + 2 < w.heap.size + 3; omega))) _ _ _ (by first | (show w.heap.size + 1 < w.heap.size + 3; omega) | (show w.heap.size + 2 < w.heap.size + 3; omega))) _ _ _ (by first | (show w.heap.size + 1 < w.heap.size + 3; omega) | (show w.heap.size + 2 < w.heap.size + 3; omega))) _ _ _ (by first | (show w.heap.size + 1 < w.heap.size + 3; omega) | (show w.heap.size + 2 < w.heap.size + 3; omega))) _ _ _ (by first | (show w.heap.size + 1 < w.heap.size + 3; omega) | (show w.heap.size + 2 < w.heap.size + 3; omega))) _ _ _ (by first | (show w.heap.size + 1 < w.heap.size + 3; omega) | (show w.heap.size + 2 < w.heap.size + 3; omega)))
      · exact rowH (own_set (own_set (own_set (own_set (own_set (own_set (own_set (own_set (own_set (HFN.out.2.1) _ _ _ (by first | (show w.heap.size + 1 < w.heap.size + 3; omega) | (show w.heap.size + 2 < w.heap.size + 3; omega))) _ _ _ (by first | (show w.heap.size + 1 < w.heap.size + 3; omega) | (show w.heap.size + 2 < w.heap.size + 3; omega))) _ _ _ (by first | (show w.heap.size + 1 < w.heap.size + 3; omega) | (show w.heap.size + 2 < w.heap.size + 3; omega))) _ _ _ (by first | (show w.heap.size + 1 < w.heap.size + 3; omega) | (show w.heap.size + 2 < w.heap.size + 3; omega))) _ _ _ (by first | (show w.heap.size + 1 < w.heap.size + 3; omega) | (show w.heap.size + 2 < w.heap.size + 3; omega))) _ _ _ (by first | (show w.heap.size + 1 < w.heap.size + 3; omega) | (show w.heap.size + 2 < w.heap.size + 3; omega))) _ _ _ (by first | (show w.heap.size + 1 < w.heap.size + 3; omega) | (show w.heap.size + 2 < w.heap.size + 3; omega))) _ _ _ (by first | (show w.heap.size + 1 < w.heap.size + 3; omega) | (show w.heap.size + 2 < w.heap.size + 3; omega))) _ _ _ (by first | (show w.heap.size + 1 < w.heap.size + 3; omega) | (show w.heap.size + 2 < w.heap.size + 3; omega)))
      · exact (((((((((HFN.out.2.2).setCell (by first | (show w.heap.size ≤ w.heap.size + 1; omega) | (show w.heap.size ≤ w.heap.size + 2; omega)) _).setCell (by first | (show w.heap.size ≤ w.heap.size + 1; omega) | (show w.heap.size ≤ w.heap.size + 2; omega)) _).setCell (by first | (show w.heap.size ≤ w.heap.size + 1; omega) | (show w.heap.size ≤ w.heap.size + 2; omega)) _).setCell (by first | (show w.heap.size ≤ w.heap.size + 1; omega) | (show w.heap.size ≤ w.heap.size + 2; omega)) _).setCell (by first | (show w.heap.size ≤ w.heap.size + 1; omega) | (show w.heap.size ≤ w.heap.size + 2; omega)) _).setCell (by first | (show w.heap.size ≤ w.heap.size + 1; omega) | (show w.heap.size ≤ w.heap.size + 2; omega)) _).setCell (by first | (show w.heap.size ≤ w.heap.size + 1; omega) | (show w.heap.size ≤ w.heap.size + 2; omega)) _).setCell (by first | (show w.heap.size ≤ w.heap.size + 1; omega) | (show w.heap.size ≤ w.heap.size + 2; omega)) _).setCell (by first | (show w.heap.size ≤ w.heap.size + 1; omega) | (show w.heap.size ≤ w.heap.size + 2; omega)) _
    | true =>
      go_wp2_with (go_at_call 39; fail)
      refine k2.mono ?_
      rintro e wh ⟨rfl, hwh⟩
      obtain rfl := hwh
      clear k2
      cases d2 with
      | false =>
        obtain rfl : GD = false := by rw [← HGD.out]; exact rfl
        obtain rfl : es = AR := HAR.out.symm
        obtain rfl : ms = AH := HAH.out.symm
        obtain rfl : qpp.headM [] = AM := HAM.out.symm
        clear HAR HAH HAM HGD
        have hp9 := HPX.out.on hb2
        have z0 : w2.cell? ⟨w.heap.size + 1, 0, none⟩ = some (.string ⟨#[]⟩) := bcell hp9.res rfl
        have z1 : w2.cell? ⟨w.heap.size + 1, 1, none⟩ = some (.int .i64 0) := bcell hp9.res rfl
        have z2 : w2.cell? ⟨w.heap.size + 1, 2, none⟩ = some (.slice none 0 0) := bcell hp9.res rfl
        have z3 : w2.cell? ⟨w.heap.size + 1, 3, none⟩ = some (.slice none 0 0) := bcell hp9.res rfl
        have y0 : w2.cell? ⟨w.heap.size + 2, 0, none⟩ = some (.int .i64 0) := bcell hp9.rem rfl
        have y1 : w2.cell? ⟨w.heap.size + 2, 1, none⟩ = some (.string ⟨#[]⟩) := bcell hp9.rem rfl
        have y2 : w2.cell? ⟨w.heap.size + 2, 2, none⟩ = some (.string ⟨#[]⟩) := bcell hp9.rem rfl
        have y3 : w2.cell? ⟨w.heap.size + 2, 3, none⟩ = some (.string ⟨#[]⟩) := bcell hp9.rem rfl
        have y4 : w2.cell? ⟨w.heap.size + 2, 4, none⟩ = some (.bool false) := bcell hp9.rem rfl
        have f0 := bfree hp9.res 0
        have f1 := bfree hp9.res 1
        have f2 := bfree hp9.res 2
        have f3 := bfree hp9.res 3
        have e0 := bfree hp9.rem 0
        have e1 := bfree hp9.rem 1
        have e2 := bfree hp9.rem 2
        have e3 := bfree hp9.rem 3
        have e4 := bfree hp9.rem 4
        have n0 : w2.cell? ⟨w1.heap.size, 0, none⟩ = some (.string sn) := bcell hp9.out rfl
        have n1 : w2.cell? ⟨w1.heap.size, 1, none⟩ = some (.int .i64 nx) := bcell hp9.out rfl
        have n2 : w2.cell? ⟨w1.heap.size, 2, none⟩ = some (.slice (some ⟨g1, 0, none⟩) es.length c1) := bcell hp9.out rfl
        have n3 : w2.cell? ⟨w1.heap.size, 3, none⟩ = some (.slice (some ⟨h1, 0, none⟩) ms.length c2) := bcell hp9.out rfl
        have hne1 : w1.heap.size ≠ w.heap.size + 1 := by have := hp9.h8; omega
        have hne2 : w1.heap.size ≠ w.heap.size + 2 := by have := hp9.h8; omega
        have hne3 : w.heap.size + 1 ≠ w1.heap.size := by have := hp9.h8; omega
        have hne4 : w.heap.size + 2 ≠ w1.heap.size := by have := hp9.h8; omega
        have HFN : Hid (w2.ownsRow (w.heap.size + 3) 38 5 (.slice (some ⟨g1, 0, none⟩) es.length c1) es.length (es.flatMap flM.c) ∧ w2.ownsRow (w.heap.size + 3) 66 7 (.slice (some ⟨h1, 0, none⟩) ms.length c2) ms.length (ms.flatMap flH.c) ∧ Below w.heap.size w w2) := ⟨own_stay HOE.out hb2, own_stay HOH.out hb2, hp9.bel⟩
        clear hp9
        go_wp2
        refine bodyPost_ret (v := .tuple #[.agg #[.string sn, .int .i64 nx, .slice (some ⟨g1, 0, none⟩) es.length c1, .slice (some ⟨h1, 0, none⟩) ms.length c2], .agg #[.int .i64 0, .string ⟨#[]⟩, .string ⟨#[]⟩, .string ⟨#[]⟩, .bool false], .bool false]) (by simp [results, Try.results14, go_sem, z0, z1, z2, z3, y0, y1, y2, y3, y4]) rfl ⟨_, _, _, _, rfl, ?_, ?_, ?_⟩
        · exact rowM (own_set (own_set (own_set (own_set (own_set (own_set (own_set (own_set (own_set (HFN.out.1) _ _ _ (by first | (show w.heap.size + 1 < w.heap.size + 3; omega) | (show w.heap.size + 2 < w.heap.size + 3; omega))) _ _ _ (by first | (show w.heap.size + 1 < w.heap.size + 3; omega) | (show w.heap.size + 2 < w.heap.size + 3; omega))) _ _ _ (by first | (show w.heap.size + 1 < w.heap.size + 3; omega) | (show w.heap.size + 2 < w.heap.size + 3; omega))) _ _ _ (by first | (show w.heap.size + 1 < w.heap.size + 3; omega) | (show w.heap.size + 2 < w.heap.size + 3; omega))) _ _ _ (by first | (show w.heap.size + 1 < w.heap.size + 3; omega) | (show w.heap.size + 2 < w.heap.size + 3; omega))) _ _ _ (by first | (show w.heap.size + 1 < w.heap.size + 3; omega) | (show w.heap.size + 2 < w.heap.size + 3; omega))) _ _ _ (by first | (show w.heap.size + 1 < w.heap.size + 3; omega) | (show w.heap.size + 2 < w.heap.size + 3; omega))) _ _ _ (by first | (show w.heap.size + 1 < w.heap.size + 3; omega) | (show w.heap.size + 2 < w.heap.size + 3; omega))) _ _ _ (by first | (show w.heap.size + 1 < w.heap.size + 3; omega) | (show w.heap.size + 2 < w.heap.size + 3; omega)))
        · exact rowH (own_set (own_set (own_set (own_set (own_set (own_set (own_set (own_set (own_set (HFN.out.2.1) _ _ _ (by first | (show w.heap.size + 1 < w.heap.size + 3; omega) | (show w.heap.size + 2 < w.heap.size + 3; omega))) _ _ _ (by first | (show w.heap.size + 1 < w.heap.size + 3; omega) | (show w.heap.size + 2 < w.heap.size + 3; omega))) _ _ _ (by first | (show w.heap.size + 1 < w.heap.size + 3; omega) | (show w.heap.size + 2 < w.heap.size + 3; omega))) _ _ _ (by first | (show w.heap.size + 1 < w.heap.size + 3; omega) | (show w.heap.size + 2 < w.heap.size + 3; omega))) _ _ _ (by first | (show w.heap.size + 1 < w.heap.size + 3; omega) | (show w.heap.size + 2 < w.heap.size + 3; omega))) _ _ _ (by first | (show w.heap.size + 1 < w.heap.size + 3; omega) | (show w.heap.size + 2 < w.heap.size + 3; omega))) _ _ _ (by first | (show w.heap.size + 1 < w.heap.size + 3; omega) | (show w.heap.size + 2 < w.heap.size + 3; omega))) _ _ _ (by first | (show w.heap.size + 1 < w.heap.size + 3; omega) | (show w.heap.size + 2 < w.heap.size + 3; omega))) _ _ _ (by first | (show w.heap.size + 1 < w.heap.size + 3; omega) | (show w.heap.size + 2 < w.heap.size + 3; omega)))
        · exact (((((((((HFN.out.2.2).setCell (by first | (show w.heap.size ≤ w.heap.size + 1; omega) | (show w.heap.size ≤ w.heap.size + 2; omega)) _).setCell (by first | (show w.heap.size ≤ w.heap.size + 1; omega) | (show w.heap.size ≤ w.heap.size + 2; omega)) _).setCell (by first | (show w.heap.size ≤ w.heap.size + 1; omega) | (show w.heap.size ≤ w.heap.size + 2; omega)) _).setCell (by first | (show w.heap.size ≤ w.heap.size + 1; omega) | (show w.heap.size ≤ w.heap.size + 2; omega)) _).setCell (by first | (show w.heap.size ≤ w.heap.size + 1; omega) | (show w.heap.size ≤ w.heap.size + 2; omega)) _).setCell (by first | (show w.heap.size ≤ w.heap.size + 1; omega) | (show w.heap.size ≤ w.heap.size + 2; omega)) _).setCell (by first | (show w.heap.size ≤ w.heap.size + 1; omega) | (show w.heap.size ≤ w.heap.size + 2; omega)) _).setCell (by first | (show w.heap.size ≤ w.heap.size + 1; omega) | (show w.heap.size ≤ w.heap.size + 2; omega)) _).setCell (by first | (show w.heap.size ≤ w.heap.size + 1; omega) | (show w.heap.size ≤ w.heap.size + 2; omega)) _
      | true =>
        have hp2 := HPX.out.on hb2
        have x0 : w2.cell? ⟨w.heap.size, 0, none⟩ = some (.string sn) := bcell hp2.box rfl
        have x1 : w2.cell? ⟨w.heap.size, 1, none⟩ = some (.int .i64 nx) := bcell hp2.box rfl
        have x2 : w2.cell? ⟨w.heap.size, 2, none⟩ = some (.slice (some ⟨g, 0, none⟩) es.length cg) := bcell hp2.box rfl
        have x3 : w2.cell? ⟨w.heap.size, 3, none⟩ = some (.slice (some ⟨h, 0, none⟩) ms.length ch) := bcell hp2.box rfl
        clear hp2
        by_cases hes : es = []
        · have hl0 : ((es.length : Int) == 0) = true := by simp [hes]
          have hie : es.isEmpty = true := by simp [hes]
          clear hes
          obtain rfl : GD = false := by rw [← HGD.out]; exact (by rw [hie]; rfl)
          obtain rfl : es = AR := HAR.out.symm
          obtain rfl : ms = AH := HAH.out.symm
          obtain rfl : qpp.headM [] = AM := HAM.out.symm
          clear HAR HAH HAM HGD
          have hp9 := HPX.out.on hb2
          have z0 : w2.cell? ⟨w.heap.size + 1, 0, none⟩ = some (.string ⟨#[]⟩) := bcell hp9.res rfl
          have z1 : w2.cell? ⟨w.heap.size + 1, 1, none⟩ = some (.int .i64 0) := bcell hp9.res rfl
          have z2 : w2.cell? ⟨w.heap.size + 1, 2, none⟩ = some (.slice none 0 0) := bcell hp9.res rfl
          have z3 : w2.cell? ⟨w.heap.size + 1, 3, none⟩ = some (.slice none 0 0) := bcell hp9.res rfl
          have y0 : w2.cell? ⟨w.heap.size + 2, 0, none⟩ = some (.int .i64 0) := bcell hp9.rem rfl
          have y1 : w2.cell? ⟨w.heap.size + 2, 1, none⟩ = some (.string ⟨#[]⟩) := bcell hp9.rem rfl
          have y2 : w2.cell? ⟨w.heap.size + 2, 2, none⟩ = some (.string ⟨#[]⟩) := bcell hp9.rem rfl
          have y3 : w2.cell? ⟨w.heap.size + 2, 3, none⟩ = some (.string ⟨#[]⟩) := bcell hp9.rem rfl
          have y4 : w2.cell? ⟨w.heap.size + 2, 4, none⟩ = some (.bool false) := bcell hp9.rem rfl
          have f0 := bfree hp9.res 0
          have f1 := bfree hp9.res 1
          have f2 := bfree hp9.res 2
          have f3 := bfree hp9.res 3
          have e0 := bfree hp9.rem 0
          have e1 := bfree hp9.rem 1
          have e2 := bfree hp9.rem 2
          have e3 := bfree hp9.rem 3
          have e4 := bfree hp9.rem 4
          have n0 : w2.cell? ⟨w1.heap.size, 0, none⟩ = some (.string sn) := bcell hp9.out rfl
          have n1 : w2.cell? ⟨w1.heap.size, 1, none⟩ = some (.int .i64 nx) := bcell hp9.out rfl
          have n2 : w2.cell? ⟨w1.heap.size, 2, none⟩ = some (.slice (some ⟨g1, 0, none⟩) es.length c1) := bcell hp9.out rfl
          have n3 : w2.cell? ⟨w1.heap.size, 3, none⟩ = some (.slice (some ⟨h1, 0, none⟩) ms.length c2) := bcell hp9.out rfl
          have hne1 : w1.heap.size ≠ w.heap.size + 1 := by have := hp9.h8; omega
          have hne2 : w1.heap.size ≠ w.heap.size + 2 := by have := hp9.h8; omega
          have hne3 : w.heap.size + 1 ≠ w1.heap.size := by have := hp9.h8; omega
          have hne4 : w.heap.size + 2 ≠ w1.heap.size := by have := hp9.h8; omega
          have HFN : Hid (w2.ownsRow (w.heap.size + 3) 38 5 (.slice (some ⟨g1, 0, none⟩) es.length c1) es.length (es.flatMap flM.c) ∧ w2.ownsRow (w.heap.size + 3) 66 7 (.slice (some ⟨h1, 0, none⟩) ms.length c2) ms.length (ms.flatMap flH.c) ∧ Below w.heap.size w w2) := ⟨own_stay HOE.out hb2, own_stay HOH.out hb2, hp9.bel⟩
          clear hp9
          go_wp2
          refine bodyPost_ret (v := .tuple #[.agg #[.string sn, .int .i64 nx, .slice (some ⟨g1, 0, none⟩) es.length c1, .slice (some ⟨h1, 0, none⟩) ms.length c2], .agg #[.int .i64 0, .string ⟨#[]⟩, .string ⟨#[]⟩, .string ⟨#[]⟩, .bool false], .bool false]) (by simp [results, Try.results14, go_sem, z0, z1, z2, z3, y0, y1, y2, y3, y4]) rfl ⟨_, _, _, _, rfl, ?_, ?_, ?_⟩
          · exact rowM (own_set (own_set (own_set (own_set (own_set (own_set (own_set (own_set (own_set (HFN.out.1) _ _ _ (by first | (show w.heap.size + 1 < w.heap.size + 3; omega) | (show w.heap.size + 2 < w.heap.size + 3; omega))) _ _ _ (by first | (show w.heap.size + 1 < w.heap.size + 3; omega) | (show w.heap.size + 2 < w.heap.size + 3; omega))) _ _ _ (by first | (show w.heap.size + 1 < w.heap.size + 3; omega) | (show w.heap.size + 2 < w.heap.size + 3; omega))) _ _ _ (by first | (show w.heap.size + 1 < w.heap.size + 3; omega) | (show w.heap.size + 2 < w.heap.size + 3; omega))) _ _ _ (by first | (show w.heap.size + 1 < w.heap.size + 3; omega) | (show w.heap.size + 2 < w.heap.size + 3; omega))) _ _ _ (by first | (show w.heap.size + 1 < w.heap.size + 3; omega) | (show w.heap.size + 2 < w.heap.size + 3; omega))) _ _ _ (by first | (show w.heap.size + 1 < w.heap.size + 3; omega) | (show w.heap.size + 2 < w.heap.size + 3; omega))) _ _ _ (by first | (show w.heap.size + 1 < w.heap.size + 3; omega) | (show w.heap.size + 2 < w.heap.size + 3; omega))) _ _ _ (by first | (show w.heap.size + 1 < w.heap.size + 3; omega) | (show w.heap.size + 2 < w.heap.size + 3; omega)))
          · exact rowH (own_set (own_set (own_set (own_set (own_set (own_set (own_set (own_set (own_set (HFN.out.2.1) _ _ _ (by first | (show w.heap.size + 1 < w.heap.size + 3; omega) | (show w.heap.size + 2 < w.heap.size + 3; omega))) _ _ _ (by first | (show w.heap.size + 1 < w.heap.size + 3; omega) | (show w.heap.size + 2 < w.heap.size + 3; omega))) _ _ _ (by first | (show w.heap.size + 1 < w.heap.size + 3; omega) | (show w.heap.size + 2 < w.heap.size + 3; omega))) _ _ _ (by first | (show w.heap.size + 1 < w.heap.size + 3; omega) | (show w.heap.size + 2 < w.heap.size + 3; omega))) _ _ _ (by first | (show w.heap.size + 1 < w.heap.size + 3; omega) | (show w.heap.size + 2 < w.heap.size + 3; omega))) _ _ _ (by first | (show w.heap.size + 1 < w.heap.size + 3; omega) | (show w.heap.size + 2 < w.heap.size + 3; omega))) _ _ _ (by first | (show w.heap.size + 1 < w.heap.size + 3; omega) | (show w.heap.size + 2 < w.heap.size + 3; omega))) _ _ _ (by first | (show w.heap.size + 1 < w.heap.size + 3; omega) | (show w.heap.size + 2 < w.heap.size + 3; omega))) _ _ _ (by first | (show w.heap.size + 1 < w.heap.size + 3; omega) | (show w.heap.size + 2 < w.heap.size + 3; omega)))
          · exact (((((((((HFN.out.2.2).setCell (by first | (show w.heap.size ≤ w.heap.size + 1; omega) | (show w.heap.size ≤ w.heap.size + 2; omega)) _).setCell (by first | (show w.heap.size ≤ w.heap.size + 1; omega) | (show w.heap.size ≤ w.heap.size + 2; omega)) _).setCell (by first | (show w.heap.size ≤ w.heap.size + 1; omega) | (show w.heap.size ≤ w.heap.size + 2; omega)) _).setCell (by first | (show w.heap.size ≤ w.heap.size + 1; omega) | (show w.heap.size ≤ w.heap.size + 2; omega)) _).setCell (by first | (show w.heap.size ≤ w.heap.size + 1; omega) | (show w.heap.size ≤ w.heap.size + 2; omega)) _).setCell (by first | (show w.heap.size ≤ w.heap.size + 1; omega) | (show w.heap.size ≤ w.heap.size + 2; omega)) _).setCell (by first | (show w.heap.size ≤ w.heap.size + 1; omega) | (show w.heap.size ≤ w.heap.size + 2; omega)) _).setCell (by first | (show w.heap.size ≤ w.heap.size + 1; omega) | (show w.heap.size ≤ w.heap.size + 2; omega)) _).setCell (by first | (show w.heap.size ≤ w.heap.size + 1; omega) | (show w.heap.size ≤ w.heap.size + 2; omega)) _
        · have hl0 : ((es.length : Int) == 0) = false := by simp [hes]
          have hie : es.isEmpty = false := by simp [hes]
          obtain ⟨⟨q, x, y, z, ag⟩, h0, hr0, hrt⟩ : ∃ r0, es[0]? = some r0 ∧ qpp.headM es = r0 ∧ es = r0 :: es.tail := by
            cases es with
            | nil => exact absurd rfl hes
            | cons r l => exact ⟨r, rfl, rfl, rfl⟩
          have HH0 : Hid (es[0]? = some ⟨q, x, y, z, ag⟩ ∧ qpp.headM es = ⟨q, x, y, z, ag⟩ ∧ es = ⟨q, x, y, z, ag⟩ :: es.tail) := ⟨h0, hr0, hrt⟩
          clear hes h0 hr0 hrt
          go_wp2
          go_loopw [10, 11] (fun a i wr => ∃ k av : Nat, k ≤ ms.length ∧ i = .int .i64 k ∧ a = .int .i64 av ∧ Hid (qpp.atO o ms k = av ∧ (ms.take k).any (qpp.late o t) = false) ∧ Hid (Below X.heap.size X wr)) (fun _ i _ => ms.length - (intOf i).toNat)
          case atStart => exact ⟨0, 0, Nat.zero_le _, rfl, rfl, ⟨rfl, by simp⟩, hb2⟩
          case round =>
            obtain ⟨k, av, hk, rfl, rfl, hn, hBr⟩ := hrel
            have hpr := HPX.out.on hBr.out
            have HROW : Hid (Row flH.c 7 wr wr.heap.size (some ⟨h, 0, none⟩) ms) := HE.out.inn hpr.bel
            clear x0 x1 x2 x3
            have x0 : wr.cell? ⟨w.heap.size, 0, none⟩ = some (.string sn) := bcell hpr.box rfl
            have x1 : wr.cell? ⟨w.heap.size, 1, none⟩ = some (.int .i64 nx) := bcell hpr.box rfl
            have x2 : wr.cell? ⟨w.heap.size, 2, none⟩ = some (.slice (some ⟨g, 0, none⟩) es.length cg) := bcell hpr.box rfl
            have x3 : wr.cell? ⟨w.heap.size, 3, none⟩ = some (.slice (some ⟨h, 0, none⟩) ms.length ch) := bcell hpr.box rfl
            clear hpr
            by_cases hkl : k < ms.length
            · have f0 : decide ((k : Int) < (ms.length : Int)) = true := by simp; omega
              have i2 : (k : Int) < (ms.length : Int) := by omega
              have HG : Hid (ms[k]? = some ms[k]) := List.getElem?_eq_getElem hkl
              obtain ⟨⟨ht, ho, hm⟩, he⟩ : ∃ e, ms[k] = e := ⟨_, rfl⟩
              rw [he] at HG
              obtain ⟨b0, b1⟩ := cellH HROW.out HG.out
              clear he
              have b0 : wr.cell? ⟨h, k * 7, none⟩ = some (.int .i64 ht) := b0
              have b1 : wr.cell? ⟨h, k * 7 + 1, none⟩ = some (.int .i64 ho) := b1
              by_cases p1 : ho = o
              · have q1 : (ho == o) = true := by simpa using p1
                by_cases p2 : t ≤ ht
                · have q2 : decide (t ≤ ht) = true := by simpa using p2
                  have hla : ms.any (qpp.late o t) = true := any_late HG.out (by simp [qpp.late, p1, p2])
                  clear p1 p2
                  obtain rfl : GD = false := by rw [← HGD.out]; exact (by rw [hie, hla]; rfl)
                  obtain rfl : es = AR := HAR.out.symm
                  obtain rfl : ms = AH := HAH.out.symm
                  obtain rfl : qpp.headM [] = AM := HAM.out.symm
                  clear HAR HAH HAM HGD
                  have hp9 := HPX.out.on hBr.out
                  have z0 : wr.cell? ⟨w.heap.size + 1, 0, none⟩ = some (.string ⟨#[]⟩) := bcell hp9.res rfl
                  have z1 : wr.cell? ⟨w.heap.size + 1, 1, none⟩ = some (.int .i64 0) := bcell hp9.res rfl
                  have z2 : wr.cell? ⟨w.heap.size + 1, 2, none⟩ = some (.slice none 0 0) := bcell hp9.res rfl
                  have z3 : wr.cell? ⟨w.heap.size + 1, 3, none⟩ = some (.slice none 0 0) := bcell hp9.res rfl
                  have y0 : wr.cell? ⟨w.heap.size + 2, 0, none⟩ = some (.int .i64 0) := bcell hp9.rem rfl
                  have y1 : wr.cell? ⟨w.heap.size + 2, 1, none⟩ = some (.string ⟨#[]⟩) := bcell hp9.rem rfl
                  have y2 : wr.cell? ⟨w.heap.size + 2, 2, none⟩ = some (.string ⟨#[]⟩) := bcell hp9.rem rfl
                  have y3 : wr.cell? ⟨w.heap.size + 2, 3, none⟩ = some (.string ⟨#[]⟩) := bcell hp9.rem rfl
                  have y4 : wr.cell? ⟨w.heap.size + 2, 4, none⟩ = some (.bool false) := bcell hp9.rem rfl
                  have f0 := bfree hp9.res 0
                  have f1 := bfree hp9.res 1
                  have f2 := bfree hp9.res 2
                  have f3 := bfree hp9.res 3
                  have e0 := bfree hp9.rem 0
                  have e1 := bfree hp9.rem 1
                  have e2 := bfree hp9.rem 2
                  have e3 := bfree hp9.rem 3
                  have e4 := bfree hp9.rem 4
                  have n0 : wr.cell? ⟨w1.heap.size, 0, none⟩ = some (.string sn) := bcell hp9.out rfl
                  have n1 : wr.cell? ⟨w1.heap.size, 1, none⟩ = some (.int .i64 nx) := bcell hp9.out rfl
                  have n2 : wr.cell? ⟨w1.heap.size, 2, none⟩ = some (.slice (some ⟨g1, 0, none⟩) es.length c1) := bcell hp9.out rfl
                  have n3 : wr.cell? ⟨w1.heap.size, 3, none⟩ = some (.slice (some ⟨h1, 0, none⟩) ms.length c2) := bcell hp9.out rfl
                  have hne1 : w1.heap.size ≠ w.heap.size + 1 := by have := hp9.h8; omega
                  have hne2 : w1.heap.size ≠ w.heap.size + 2 := by have := hp9.h8; omega
                  have hne3 : w.heap.size + 1 ≠ w1.heap.size := by have := hp9.h8; omega
                  have hne4 : w.heap.size + 2 ≠ w1.heap.size := by have := hp9.h8; omega
                  have HFN : Hid (wr.ownsRow (w.heap.size + 3) 38 5 (.slice (some ⟨g1, 0, none⟩) es.length c1) es.length (es.flatMap flM.c) ∧ wr.ownsRow (w.heap.size + 3) 66 7 (.slice (some ⟨h1, 0, none⟩) ms.length c2) ms.length (ms.flatMap flH.c) ∧ Below w.heap.size w wr) := ⟨own_stay HOE.out hBr.out, own_stay HOH.out hBr.out, hp9.bel⟩
                  clear hp9
                  go_wp2
                  refine bodyPost_ret (v := .tuple #[.agg #[.string sn, .int .i64 nx, .slice (some ⟨g1, 0, none⟩) es.length c1, .slice (some ⟨h1, 0, none⟩) ms.length c2], .agg #[.int .i64 0, .string ⟨#[]⟩, .string ⟨#[]⟩, .string ⟨#[]⟩, .bool false], .bool false]) (by simp [results, Try.results14, go_sem, z0, z1, z2, z3, y0, y1, y2, y3, y4]) rfl ⟨_, _, _, _, rfl, ?_, ?_, ?_⟩
                  · exact rowM (own_set (own_set (own_set (own_set (own_set (own_set (own_set (own_set (own_set (HFN.out.1) _ _ _ (by first | (show w.heap.size + 1 < w.heap.size + 3; omega) | (show w.heap.size + 2 < w.heap.size + 3; omega))) _ _ _ (by first | (show w.heap.size + 1 < w.heap.size + 3; omega) | (show w.heap.size + 2 < w.heap.size + 3; omega))) _ _ _ (by first | (show w.heap.size + 1 < w.heap.size + 3; omega) | (show w.heap.size + 2 < w.heap.size + 3; omega))) _ _ _ (by first | (show w.heap.size + 1 < w.heap.size + 3; omega) | (show w.heap.size + 2 < w.heap.size + 3; omega))) _ _ _ (by first | (show w.heap.size + 1 < w.heap.size + 3; omega) | (show w.heap.size + 2 < w.heap.size + 3; omega))) _ _ _ (by first | (show w.heap.size + 1 < w.heap.size + 3; omega) | (show w.heap.size + 2 < w.heap.size + 3; omega))) _ _ _ (by first | (show w.heap.size + 1 < w.heap.size + 3; omega) | (show w.heap.size + 2 < w.heap.size + 3; omega))) _ _ _ (by first | (show w.heap.size + 1 < w.heap.size + 3; omega) | (show w.heap.size + 2 < w.heap.size + 3; omega))) _ _ _ (by first | (show w.heap.size + 1 < w.heap.size + 3; omega) | (show w.heap.size + 2 < w.heap.size + 3; omega)))
                  · exact rowH (own_set (own_set (own_set (own_set (own_set (own_set (own_set (own_set (own_set (HFN.out.2.1) _ _ _ (by first | (show w.heap.size + 1 < w.heap.size + 3; omega) | (show w.heap.size + 2 < w.heap.size + 3; omega))) _ _ _ (by first | (show w.heap.size + 1 < w.heap.size + 3; omega) | (show w.heap.size + 2 < w.heap.size + 3; omega))) _ _ _ (by first | (show w.heap.size + 1 < w.heap.size + 3; omega) | (show w.heap.size + 2 < w.heap.size + 3; omega))) _ _ _ (by first | (show w.heap.size + 1 < w.heap.size + 3; omega) | (show w.heap.size + 2 < w.heap.size + 3; omega))) _ _ _ (by first | (show w.heap.size + 1 < w.heap.size + 3; omega) | (show w.heap.size + 2 < w.heap.size + 3; omega))) _ _ _ (by first | (show w.heap.size + 1 < w.heap.size + 3; omega) | (show w.heap.size + 2 < w.heap.size + 3; omega))) _ _ _ (by first | (show w.heap.size + 1 < w.heap.size + 3; omega) | (show w.heap.size + 2 < w.heap.size + 3; omega))) _ _ _ (by first | (show w.heap.size + 1 < w.heap.size + 3; omega) | (show w.heap.size + 2 < w.heap.size + 3; omega))) _ _ _ (by first | (show w.heap.size + 1 < w.heap.size + 3; omega) | (show w.heap.size + 2 < w.heap.size + 3; omega)))
                  · exact (((((((((HFN.out.2.2).setCell (by first | (show w.heap.size ≤ w.heap.size + 1; omega) | (show w.heap.size ≤ w.heap.size + 2; omega)) _).setCell (by first | (show w.heap.size ≤ w.heap.size + 1; omega) | (show w.heap.size ≤ w.heap.size + 2; omega)) _).setCell (by first | (show w.heap.size ≤ w.heap.size + 1; omega) | (show w.heap.size ≤ w.heap.size + 2; omega)) _).setCell (by first | (show w.heap.size ≤ w.heap.size + 1; omega) | (show w.heap.size ≤ w.heap.size + 2; omega)) _).setCell (by first | (show w.heap.size ≤ w.heap.size + 1; omega) | (show w.heap.size ≤ w.heap.size + 2; omega)) _).setCell (by first | (show w.heap.size ≤ w.heap.size + 1; omega) | (show w.heap.size ≤ w.heap.size + 2; omega)) _).setCell (by first | (show w.heap.size ≤ w.heap.size + 1; omega) | (show w.heap.size ≤ w.heap.size + 2; omega)) _).setCell (by first | (show w.heap.size ≤ w.heap.size + 1; omega) | (show w.heap.size ≤ w.heap.size + 2; omega)) _).setCell (by first | (show w.heap.size ≤ w.heap.size + 1; omega) | (show w.heap.size ≤ w.heap.size + 2; omega)) _
                · have q2 : decide (t ≤ ht) = false := by simpa using p2
                  have q3 : decide (ho ≤ o) = true := by simp; omega
                  have HN : Hid (qpp.atO o ms (k + 1) = k + 1 ∧ (ms.take (k + 1)).any (qpp.late o t) = false) := ⟨qpp.atO_yes HG.out (by show ho ≤ o; omega), by rw [any_take HG.out hn.out.2]; simp [qpp.late, p2]⟩
                  clear p1 p2
                  go_wp2
                  go_roundw
                  case rel => exact ⟨k + 1, k + 1, by omega, by go_num, by go_num, HN, hBr⟩
                  case measure => simp [intOf]; omega
              · have q1 : (ho == o) = false := by simpa using p1
                by_cases p3 : ho ≤ o
                · have q3 : decide (ho ≤ o) = true := by simpa using p3
                  have HN : Hid (qpp.atO o ms (k + 1) = k + 1 ∧ (ms.take (k + 1)).any (qpp.late o t) = false) := ⟨qpp.atO_yes HG.out p3, by rw [any_take HG.out hn.out.2]; simp [qpp.late, p1]⟩
                  clear p1 p3
                  go_wp2
                  go_roundw
                  case rel => exact ⟨k + 1, k + 1, by omega, by go_num, by go_num, HN, hBr⟩
                  case measure => simp [intOf]; omega
                · have q3 : decide (ho ≤ o) = false := by simpa using p3
                  have HN : Hid (qpp.atO o ms (k + 1) = av ∧ (ms.take (k + 1)).any (qpp.late o t) = false) := ⟨by rw [qpp.atO_no HG.out p3, hn.out.1], by rw [any_take HG.out hn.out.2]; simp [qpp.late, p1]⟩
                  clear p1 p3
                  go_wp2
                  go_roundw
                  case rel => exact ⟨k + 1, av, by omega, by go_num, rfl, HN, hBr⟩
                  case measure => simp [intOf]; omega
            · have f0 : decide ((k : Int) < (ms.length : Int)) = false := by simp; omega
              obtain rfl : k = ms.length := by omega
              obtain rfl : GD = true := by rw [← HGD.out, hie]; have := hn.out.2; rw [List.take_length] at this; rw [this]; rfl
              have HTA : Hid (es.tail = AR) := HAR.out.symm
              obtain ⟨hcge, hche⟩ := HCG.out
              subst hche
              have hmx : qpp.headM es = ⟨q, x, y, z, ag⟩ := HH0.out.2.1
              have hav : av ≤ ms.length := by rw [← hn.out.1]; exact qpp.atO_le _ _ _
              have HAH2 : Hid (ms.take av ++ ⟨t, o, ⟨q, x, y, z, ag⟩⟩ :: ms.drop av = AH) := by
                have := HAH.out
                rw [if_pos rfl, hn.out.1, hmx] at this
                exact this.symm
              obtain rfl : (⟨q, x, y, z, ag⟩ : flM.Ms) = AM := by have := HAM.out; rw [if_pos rfl, hmx] at this; exact this.symm
              have HRM : Hid (Row flM.c 5 wr wr.heap.size (some ⟨g, 0, none⟩) es) := HY.out.inn (HPX.out.on hBr.out).bel
              obtain ⟨e0, e1, e2, e3, e4⟩ := cellM HRM.out HH0.out.1
              have e0 : wr.cell? ⟨g, 0, none⟩ = some (.int .i64 q) := e0
              have e1 : wr.cell? ⟨g, 1, none⟩ = some (.string x) := e1
              have e2 : wr.cell? ⟨g, 2, none⟩ = some (.string y) := e2
              have e3 : wr.cell? ⟨g, 3, none⟩ = some (.string z) := e3
              have e4 : wr.cell? ⟨g, 4, none⟩ = some (.bool ag) := e4
              have hel : 0 < es.length := by rw [HH0.out.2.2]; simp
              have hel1 : (0 : Int) < (es.length : Int) := by omega
              have hel2 : 1 ≤ cg := by omega
              have hel3 : 1 ≤ es.length := by omega
              clear HAR HAH HAM HGD hmx hcge
              have hpr := HPX.out.on hBr.out
              have hwr : w.heap.size + 3 ≤ wr.heap.size := by have := hpr.lt; have := hpr.h8; omega
              have hal : Below wr.heap.size wr ((wr.alloc (.cells #[.int .i64 q, .string x, .string y, .string z, .bool ag] 38)).alloc (.cells #[] 38)) := ((Below.refl _ _).alloc (Nat.le_refl _) _).alloc (by simp) _
              have hMB := bold (bnew wr #[.int .i64 q, .string x, .string y, .string z, .bool ag] 38) (.cells #[] 38)
              have ho := own_empty (wr.alloc (.cells #[.int .i64 q, .string x, .string y, .string z, .bool ag] 38)) (w.heap.size + 3) 38 5 (by simp; omega)
              have hsz1 : (wr.alloc (.cells #[.int .i64 q, .string x, .string y, .string z, .bool ag] 38)).heap.size = wr.heap.size + 1 := by simp
              rw [hsz1] at ho
              obtain ⟨V, hV⟩ : ∃ V, (wr.alloc (.cells #[.int .i64 q, .string x, .string y, .string z, .bool ag] 38)).alloc (.cells #[] 38) = V := ⟨_, rfl⟩
              have hVs : V.heap.size = wr.heap.size + 2 := by rw [← hV]; simp
              rw [hV] at hal hMB ho
              have hpV := hpr.on hal
              have v2 : V.cell? ⟨w.heap.size, 2, none⟩ = some (.slice (some ⟨g, 0, none⟩) es.length cg) := bcell hpV.box rfl
              have HPV : Hid (PX w sn nx es ms g h cg ms.length w1.heap.size (.slice (some ⟨g1, 0, none⟩) es.length c1) (.slice (some ⟨h1, 0, none⟩) ms.length c2) V) := hpV
              have HOV : Hid (V.ownsRow (w.heap.size + 3) 38 5 (.slice (some ⟨wr.heap.size + 1, 0, none⟩) 0 0) 0 []) := ho
              have HMB : Hid (V.heap[wr.heap.size]? = some (.cells #[.int .i64 q, .string x, .string y, .string z, .bool ag] 38 (0, 0))) := hMB
              have HRV : Hid (Row flM.c 5 V V.heap.size (some ⟨g, 0, none⟩) es) := HY.out.inn hpV.bel
              have HHV : Hid (Row flH.c 7 V V.heap.size (some ⟨h, 0, none⟩) ms) := HE.out.inn hpV.bel
              obtain ⟨i0, hi, hz0, hz1, hz2⟩ := infoY
              clear hpr hpV ho hMB
              by_cases hc1 : cg = 1
              · have HTL : Hid (es.tail.length = 0) := by show es.tail.length = 0; rw [List.length_tail]; have := HCG.out.1; omega
                have NEWS : Hid (∀ (j : Nat) (u : Value), (es.tail.flatMap flM.c)[j]? = some u → V.cell? ((⟨g, 0, none⟩ : Addr).add j) = some u) := fun j u hu => by rw [List.eq_nil_of_length_eq_zero HTL.out] at hu; simp at hu
                have hle : es.length - 1 = 0 := by have := HCG.out.1; omega
                go_wp2_with (at_builtin; refine wpList_append_own _ rfl _ _ 27 rfl (w.heap.size + 3) 38 i0 (.agg #[.int .i64 0, .string ByteArray.empty, .string ByteArray.empty, .string ByteArray.empty, .bool false]) 5 64 Try.underlying27 hi hz0 hz1 hz2 rfl (by decide) _ 0 [] rfl (by exact HOV.out) ⟨g, 0, none⟩ (0) (0) (es.tail.flatMap flM.c) rfl (by rw [flat_len flM.c_len, HTL.out]) (by exact NEWS.out) (oneY _) (by unfold maxLen; omega) (by omega) (by omega) ?_)
                intro v1 wA hown1 hgrow1 hnil1
                obtain ⟨g5, c5, rfl, hg5, hg5l⟩ := form hown1 (fun e => by first | exact hnil1 e | (have := hnil1.1 e; cases this.1))
                have hgr1 : V.grownBy wA (some (wr.heap.size + 1)) := hgrow1
                have hpA := HPV.out.grown hgr1 (by have := (HPX.out.on hBr.out).lt; omega)
                have hownA : wA.ownsRow (w.heap.size + 3) 38 5 (.slice (some ⟨g5, 0, none⟩) AR.length c5) AR.length (AR.flatMap flM.c) := by rw [← HTA.out, HTL.out]; first | exact hown1 | simpa using hown1
                have HMA : Hid (wA.heap[wr.heap.size]? = some (.cells #[.int .i64 q, .string x, .string y, .string z, .bool ag] 38 (0, 0))) := grown_at hgr1 HMB.out (by simp)
                have u2 : wA.cell? ⟨w1.heap.size, 2, none⟩ = some (.slice (some ⟨g1, 0, none⟩) es.length c1) := bcell hpA.out rfl
                have u2f := bfree hpA.out 2
                have HPA : Hid (PX w sn nx es ms g h cg ms.length w1.heap.size (.slice (some ⟨g1, 0, none⟩) es.length c1) (.slice (some ⟨h1, 0, none⟩) ms.length c2) wA) := hpA
                have HOA : Hid (wA.ownsRow (w.heap.size + 3) 38 5 (.slice (some ⟨g5, 0, none⟩) AR.length c5) AR.length (AR.flatMap flM.c)) := hownA
                have hw1r : w1.heap.size < wr.heap.size := (HPX.out.on hBr.out).lt
                clear hown1 hgrow1 hnil1 hpA hownA hgr1 v2 hal hV
                go_wp2
                have hpY : PX w sn nx es ms g h cg ms.length w1.heap.size (.slice (some ⟨g5, 0, none⟩) AR.length c5) (.slice (some ⟨h1, 0, none⟩) ms.length c2) (wA.setCell ⟨w1.heap.size, 2, none⟩ (.slice (some ⟨g5, 0, none⟩) (0) c5)) := by rw [← HTA.out, HTL.out]; exact HPA.out.put2 _
                have hoY : (wA.setCell ⟨w1.heap.size, 2, none⟩ (.slice (some ⟨g5, 0, none⟩) (0) c5)).ownsRow (w.heap.size + 3) 38 5 (.slice (some ⟨g5, 0, none⟩) AR.length c5) AR.length (AR.flatMap flM.c) := owns_set HOA.out (owns_ne (by decide) HOA.out HPA.out.out) _
                have hMY : (wA.setCell ⟨w1.heap.size, 2, none⟩ (.slice (some ⟨g5, 0, none⟩) (0) c5)).heap[wr.heap.size]? = some (.cells #[.int .i64 q, .string x, .string y, .string z, .bool ag] 38 (0, 0)) := boff HMA.out _ _ _ (by omega)
                obtain ⟨Y, hYY⟩ : ∃ Y, wA.setCell ⟨w1.heap.size, 2, none⟩ (.slice (some ⟨g5, 0, none⟩) (0) c5) = Y := ⟨_, rfl⟩
                rw [hYY] at hpY hoY hMY ⊢
                have HPY : Hid (PX w sn nx es ms g h cg ms.length w1.heap.size (.slice (some ⟨g5, 0, none⟩) AR.length c5) (.slice (some ⟨h1, 0, none⟩) ms.length c2) Y) := hpY
                have HOY : Hid (Y.ownsRow (w.heap.size + 3) 38 5 (.slice (some ⟨g5, 0, none⟩) AR.length c5) AR.length (AR.flatMap flM.c)) := hoY
                have HMY : Hid (Y.heap[wr.heap.size]? = some (.cells #[.int .i64 q, .string x, .string y, .string z, .bool ag] 38 (0, 0))) := hMY
                have HHY : Hid (Row flH.c 7 Y Y.heap.size (some ⟨h, 0, none⟩) ms) := HE.out.inn hpY.bel
                have hn8 : w.heap.size ≠ w1.heap.size := by have := hpY.h8; omega
                obtain ⟨i1, ki, kz0, kz1, kz2⟩ := infoK
                clear hYY hpY hoY hMY HPA HOA HMA u2 u2f x0 x1 x2 x3 e0 e1 e2 e3 e4
                refine dk.region_gsets (ws w.heap.size ms.length h w1.heap.size av (off av ms.length) o t q x y z ag) [83, 84, 85, 86, 87, 88, 89, 90, 91, 92, 93, 94, 95, 96, 97, 98, 99, 100] (ta.C ⟨Y, 66, 7, (ms.take av).flatMap flH.c, [.int .i64 t, .int .i64 o, .int .i64 q, .string x, .string y, .string z, .bool ag], (ms.drop av).flatMap flH.c, av, ms.length - av, w1.heap.size, 3⟩ J0) ⟨0, .slice none 0 0, 0, .slice none 0 0, .slice none 0 0⟩ (by kernel_rfl) (by kernel_rfl) (fun _ => rfl) (by kernel_rfl) (ta.start _ _ _) ?each ?fin
                case each =>
                  refine ⟨ta.st0 (x := J0) (d := 83) (idx := 0) J0_up (by simp) rfl (by simp) (fun g => rfl) (fun g => rfl) (fun g e => rfl) (fun s W => by simp [execOp, go_sem]), ?_⟩
                  refine ⟨ta.quiet (by decide) (by simp) (.pointer (some ⟨w.heap.size, 3, none⟩)) (by rintro s _ ⟨⟩; exact dk.sets_on _ (by simp) _ rfl) (fun s W hW => by simp [execOp, go_sem, Act.eval, dk.sets_get, ws, List.lookup]), ?_⟩
                  refine ⟨ta.quiet (by decide) (by simp) (.slice (some ⟨h, 0, none⟩) ms.length ms.length) (by rintro s _ ⟨⟩; exact dk.sets_on _ (by simp) _ rfl) (fun s W hW => by have c : W.cell? ⟨w.heap.size, 3, none⟩ = some (.slice (some ⟨h, 0, none⟩) ms.length ms.length) := bcell (hW _ _ HPY.out.box hn8) rfl; simp [execOp, go_sem, Act.eval, dk.sets_get, ws, List.lookup, c]), ?_⟩
                  refine ⟨ta.quiet (by decide) (by simp) (.int .i64 av) (by rintro s _ ⟨⟩; exact dk.sets_on _ (by simp) _ rfl) (fun s W hW => by simp [execOp, go_sem, Act.eval, dk.sets_get, ws, List.lookup]), ?_⟩
                  refine ⟨ta.quiet (by decide) (by simp) (.slice (some ⟨h, 0, none⟩) av ms.length) (by rintro s _ ⟨⟩; exact dk.sets_on _ (by simp) _ rfl) (fun s W hW => by simp [execOp, go_sem, Act.eval, dk.sets_get, ws, List.lookup, hav]), ?_⟩
                  refine ⟨ta.st1 (x := J0) (d := 88) (s1 := 83) (s2 := 87) (idx := 5) (c := ms.length) (a := ⟨h, 0, none⟩) J0_up Try.underlying28 ki kz0 kz1 kz2 rfl (by show 0 < 7; decide) rfl rfl ⟨by simp, by simp, by simp⟩ (fun g => rfl) (fun g => rfl) (fun g => rfl) (fun g => rfl) (fun g v => rfl) (by show ((ms.take av).flatMap flH.c).length = av * 7; rw [flat_len flH.c_len, List.length_take, Nat.min_eq_left hav]) (fun W hb => news_take (HHY.out.inn hb) av) (oneK _) (by show av ≤ 1048576; omega) (by show (0 + av) * 80 ≤ 140737488355328; omega) ⟨⟨0, .data⟩, by simp, rfl, rfl⟩, ?_⟩
                  refine ⟨ta.quiet (by decide) (by simp) (.int .i64 t) (by rintro s _ ⟨⟩; exact dk.sets_on _ (by simp) _ rfl) (fun s W hW => by simp [execOp, go_sem, Act.eval, dk.sets_get, ws, List.lookup]), ?_⟩
                  refine ⟨ta.quiet (by decide) (by simp) (.int .i64 o) (by rintro s _ ⟨⟩; exact dk.sets_on _ (by simp) _ rfl) (fun s W hW => by simp [execOp, go_sem, Act.eval, dk.sets_get, ws, List.lookup]), ?_⟩
                  refine ⟨ta.quiet (by decide) (by simp) (.agg #[.int .i64 q, .string x, .string y, .string z, .bool ag]) (by rintro s _ ⟨⟩; exact dk.sets_on _ (by simp) _ rfl) (fun s W hW => by obtain ⟨d0, d1, d2, d3, d4⟩ := box5 (hW _ _ HMY.out (by show wr.heap.size ≠ w1.heap.size; omega)); simp [execOp, go_sem, Act.eval, dk.sets_get, ws, List.lookup, d0, d1, d2, d3, d4]), ?_⟩
                  refine ⟨ta.quiet (by decide) (by simp) (.agg #[.int .i64 t, .int .i64 o, .int .i64 q, .string x, .string y, .string z, .bool ag]) (by rintro s _ ⟨⟩; exact dk.sets_on _ (by simp) _ rfl) (fun s W hW => by simp [execOp, go_sem, Act.eval, dk.sets_get, ws, List.lookup]), ?_⟩
                  refine ⟨ta.st2 (x := J0) (d := 93) (idx := 10) J0_up (by simp) rfl (by simp) (fun g => rfl) (fun g => rfl) (fun g e => rfl) (fun s W => by simp [execOp, go_sem, Act.eval, dk.sets_get, ws, List.lookup]), ?_⟩
                  refine ⟨ta.st3 (x := J0) (d := 94) (s1 := 88) (s2 := 93) (idx := 11) J0_up Try.underlying28 ki kz0 kz1 kz2 rfl (by show 0 < 7; decide) rfl rfl ⟨by simp, by simp, by simp⟩ (fun g => rfl) (fun g => rfl) (fun g => rfl) (fun g => rfl) (fun g v => rfl) rfl (by intro u hu; simp at hu; rcases hu with rfl | rfl | rfl | rfl | rfl | rfl | rfl <;> rfl) (by show av ≤ 1048576; omega) (by show (av + 1) * 80 ≤ 140737488355328; omega) ⟨⟨5, .data⟩, by simp, rfl, rfl⟩ ⟨⟨10, .data⟩, by simp, rfl, rfl⟩, ?_⟩
                  refine ⟨ta.quiet (by decide) (by simp) (.pointer (some ⟨w.heap.size, 3, none⟩)) (by rintro s _ ⟨⟩; exact dk.sets_on _ (by simp) _ rfl) (fun s W hW => by simp [execOp, go_sem, Act.eval, dk.sets_get, ws, List.lookup]), ?_⟩
                  refine ⟨ta.quiet (by decide) (by simp) (.slice (some ⟨h, 0, none⟩) ms.length ms.length) (by rintro s _ ⟨⟩; exact dk.sets_on _ (by simp) _ rfl) (fun s W hW => by have c : W.cell? ⟨w.heap.size, 3, none⟩ = some (.slice (some ⟨h, 0, none⟩) ms.length ms.length) := bcell (hW _ _ HPY.out.box hn8) rfl; simp [execOp, go_sem, Act.eval, dk.sets_get, ws, List.lookup, c]), ?_⟩
                  refine ⟨ta.quiet (by decide) (by simp) (.int .i64 av) (by rintro s _ ⟨⟩; exact dk.sets_on _ (by simp) _ rfl) (fun s W hW => by simp [execOp, go_sem, Act.eval, dk.sets_get, ws, List.lookup]), ?_⟩
                  refine ⟨ta.quiet (by decide) (by simp) (.slice (some ⟨h, off av ms.length, none⟩) (ms.length - av) (ms.length - av)) (by rintro s _ ⟨⟩; exact dk.sets_on _ (by simp) _ rfl) (fun s W hW => match Nat.lt_or_ge av ms.length with | .inl hlt => (by have hne : ¬ av = ms.length := Nat.ne_of_lt hlt; have hne2 : ¬ ms.length = av := (fun e => hne e.symm); simp [execOp, go_sem, Act.eval, dk.sets_get, ws, List.lookup, off, hav, hne, hne2]) | .inr hge => (by have hee : av = ms.length := Nat.le_antisymm hav hge; simp [execOp, go_sem, Act.eval, dk.sets_get, ws, List.lookup, off, hee])), ?_⟩
                  refine ⟨ta.st4 (x := J0) (d := 99) (s1 := 94) (s2 := 98) (idx := 16) (c := ms.length - av) (a := ⟨h, off av ms.length, none⟩) J0_up Try.underlying28 ki kz0 kz1 kz2 rfl (by show 0 < 7; decide) rfl rfl ⟨by simp, by simp, by simp⟩ (fun g => rfl) (fun g => rfl) (fun g => rfl) (fun g => rfl) (fun g v => rfl) (by show ((ms.drop av).flatMap flH.c).length = (ms.length - av) * 7; rw [flat_len flH.c_len, List.length_drop]) (fun W hb => news_drop (HHY.out.inn hb) av hav) (oneK _) (by show av ≤ 1048576 ∧ ms.length - av ≤ 1048576; omega) (by show (av + 1 + (ms.length - av)) * 80 ≤ 140737488355328; omega) ⟨⟨11, .data⟩, by simp, rfl, rfl⟩, ?_⟩
                  refine ⟨ta.quiet (by decide) (by simp) (.pointer (some ⟨w1.heap.size, 3, none⟩)) (by rintro s _ ⟨⟩; exact dk.sets_on _ (by simp) _ rfl) (fun s W hW => by simp [execOp, go_sem, Act.eval, dk.sets_get, ws, List.lookup]), ?_⟩
                  exact ⟨ta.st5 (x := J0) J0_up (by simp) rfl HPY.out.lt (fun s W hW hv => by obtain ⟨va, vn, vc, hv⟩ := hv; have hu := hW _ _ HPY.out.out; have c : W.cell? ⟨w1.heap.size, 3, none⟩ = some (.slice (some ⟨h1, 0, none⟩) ms.length c2) := bcell hu rfl; have f := bfree hu 3; rw [hv]; simp [execOp, go_sem, Act.eval, dk.sets_get, ws, List.lookup, c, f, hv]) ⟨⟨16, .data⟩, by simp, rfl, rfl⟩, trivial⟩
                case fin =>
                  intro gg L W hL hC
                  obtain ⟨V2, hV2, hWV, hown⟩ := ta.done hC J0_up (N := 19) (by decide) hL
                  replace hown : W.ownsRow Y.heap.size 66 7 gg.v3 (av + 1 + (ms.length - av)) ((ms.take av).flatMap flH.c ++ [.int .i64 t, .int .i64 o, .int .i64 q, .string x, .string y, .string z, .bool ag] ++ (ms.drop av).flatMap flH.c) := hown
                  have hlen : av + 1 + (ms.length - av) = AH.length := by rw [← HAH2.out]; simp; omega
                  have hfl : (ms.take av).flatMap flH.c ++ [.int .i64 t, .int .i64 o, .int .i64 q, .string x, .string y, .string z, .bool ag] ++ (ms.drop av).flatMap flH.c = AH.flatMap flH.c := by rw [← HAH2.out]; simp [flH.c]
                  rw [hfl, hlen] at hown
                  obtain ⟨h5, d5, hv3⟩ := form_pos hown (by rw [← hlen]; omega)
                  rw [hv3] at hown hWV
                  replace hV2 : Below Y.heap.size Y V2 := hV2
                  replace hWV : W = V2.setCell ⟨w1.heap.size, 3, none⟩ (.slice (some ⟨h5, 0, none⟩) AH.length d5) := hWV
                  have hpW : PX w sn nx es ms g h cg ms.length w1.heap.size (.slice (some ⟨g5, 0, none⟩) AR.length c5) (.slice (some ⟨h5, 0, none⟩) AH.length d5) W := by rw [hWV]; exact (HPY.out.on hV2).put3 _
                  have hoeW : W.ownsRow (w.heap.size + 3) 38 5 (.slice (some ⟨g5, 0, none⟩) AR.length c5) AR.length (AR.flatMap flM.c) := by rw [hWV]; exact owns_set (own_stay HOY.out hV2) (owns_ne (by decide) (own_stay HOY.out hV2) (HPY.out.on hV2).out) _
                  have hohW : W.ownsRow (w.heap.size + 3) 66 7 (.slice (some ⟨h5, 0, none⟩) AH.length d5) AH.length (AH.flatMap flH.c) := own_low hown (by have := HPY.out.lt; have := HPY.out.h8; omega)
                  have hMW : W.heap[wr.heap.size]? = some (.cells #[.int .i64 q, .string x, .string y, .string z, .bool ag] 38 (0, 0)) := by rw [hWV]; exact boff (bstay HMY.out hV2 (Array.getElem?_eq_some_iff.1 HMY.out).1) _ _ _ (by omega)
                  obtain ⟨d0, d1, d2, d3, d4⟩ := box5 hMW
                  have hmn1 : wr.heap.size ≠ w.heap.size + 1 := by omega
                  have hmn2 : wr.heap.size ≠ w.heap.size + 2 := by omega
                  have hmn3 : w.heap.size + 1 ≠ wr.heap.size := by omega
                  have hmn4 : w.heap.size + 2 ≠ wr.heap.size := by omega
                  simp only [dk.sets, ws, hv3]
                  have HPW : Hid (PX w sn nx es ms g h cg ms.length w1.heap.size (.slice (some ⟨g5, 0, none⟩) AR.length c5) (.slice (some ⟨h5, 0, none⟩) AH.length d5) W) := hpW
                  have HOEW : Hid (W.ownsRow (w.heap.size + 3) 38 5 (.slice (some ⟨g5, 0, none⟩) AR.length c5) AR.length (AR.flatMap flM.c)) := hoeW
                  have HOHW : Hid (W.ownsRow (w.heap.size + 3) 66 7 (.slice (some ⟨h5, 0, none⟩) AH.length d5) AH.length (AH.flatMap flH.c)) := hohW
                  clear hC hL hV2 hWV hown hlen hfl hv3 hpW hoeW hohW hMW
                  have hp9 := HPW.out
                  have z0 : W.cell? ⟨w.heap.size + 1, 0, none⟩ = some (.string ⟨#[]⟩) := bcell hp9.res rfl
                  have z1 : W.cell? ⟨w.heap.size + 1, 1, none⟩ = some (.int .i64 0) := bcell hp9.res rfl
                  have z2 : W.cell? ⟨w.heap.size + 1, 2, none⟩ = some (.slice none 0 0) := bcell hp9.res rfl
                  have z3 : W.cell? ⟨w.heap.size + 1, 3, none⟩ = some (.slice none 0 0) := bcell hp9.res rfl
                  have y0 : W.cell? ⟨w.heap.size + 2, 0, none⟩ = some (.int .i64 0) := bcell hp9.rem rfl
                  have y1 : W.cell? ⟨w.heap.size + 2, 1, none⟩ = some (.string ⟨#[]⟩) := bcell hp9.rem rfl
                  have y2 : W.cell? ⟨w.heap.size + 2, 2, none⟩ = some (.string ⟨#[]⟩) := bcell hp9.rem rfl
                  have y3 : W.cell? ⟨w.heap.size + 2, 3, none⟩ = some (.string ⟨#[]⟩) := bcell hp9.rem rfl
                  have y4 : W.cell? ⟨w.heap.size + 2, 4, none⟩ = some (.bool false) := bcell hp9.rem rfl
                  have f0 := bfree hp9.res 0
                  have f1 := bfree hp9.res 1
                  have f2 := bfree hp9.res 2
                  have f3 := bfree hp9.res 3
                  have e0 := bfree hp9.rem 0
                  have e1 := bfree hp9.rem 1
                  have e2 := bfree hp9.rem 2
                  have e3 := bfree hp9.rem 3
                  have e4 := bfree hp9.rem 4
                  have n0 : W.cell? ⟨w1.heap.size, 0, none⟩ = some (.string sn) := bcell hp9.out rfl
                  have n1 : W.cell? ⟨w1.heap.size, 1, none⟩ = some (.int .i64 nx) := bcell hp9.out rfl
                  have n2 : W.cell? ⟨w1.heap.size, 2, none⟩ = some (.slice (some ⟨g5, 0, none⟩) AR.length c5) := bcell hp9.out rfl
                  have n3 : W.cell? ⟨w1.heap.size, 3, none⟩ = some (.slice (some ⟨h5, 0, none⟩) AH.length d5) := bcell hp9.out rfl
                  have hne1 : w1.heap.size ≠ w.heap.size + 1 := by have := hp9.h8; omega
                  have hne2 : w1.heap.size ≠ w.heap.size + 2 := by have := hp9.h8; omega
                  have hne3 : w.heap.size + 1 ≠ w1.heap.size := by have := hp9.h8; omega
                  have hne4 : w.heap.size + 2 ≠ w1.heap.size := by have := hp9.h8; omega
                  have HFN : Hid (W.ownsRow (w.heap.size + 3) 38 5 (.slice (some ⟨g5, 0, none⟩) AR.length c5) AR.length (AR.flatMap flM.c) ∧ W.ownsRow (w.heap.size + 3) 66 7 (.slice (some ⟨h5, 0, none⟩) AH.length d5) AH.length (AH.flatMap flH.c) ∧ Below w.heap.size w W) := ⟨HOEW.out, HOHW.out, hp9.bel⟩
                  clear hp9
                  go_wp2
                  go_region_with (fail)
                  all_goals go_wp2
                  all_goals
                    refine bodyPost_ret (v := .tuple #[.agg #[.string sn, .int .i64 nx, .slice (some ⟨g5, 0, none⟩) AR.length c5, .slice (some ⟨h5, 0, none⟩) AH.length d5], .agg #[.int .i64 q, .string x, .string y, .string z, .bool ag], .bool true]) (by simp [results, Try.results14, go_sem, z0, z1, z2, z3, y0, y1, y2, y3, y4]) rfl ⟨_, _, _, _, rfl, ?_, ?_, ?_⟩
                    · exact rowM (own_stay (own_set (own_set (own_set (own_set (own_set (own_set (own_set (own_set (own_set (HFN.out.1) _ _ _ (by first | (show w.heap.size + 1 < w.heap.size + 3; omega) | (show w.heap.size + 2 < w.heap.size + 3; omega))) _ _ _ (by first | (show w.heap.size + 1 < w.heap.size + 3; omega) | (show w.heap.size + 2 < w.heap.size + 3; omega))) _ _ _ (by first | (show w.heap.size + 1 < w.heap.size + 3; omega) | (show w.heap.size + 2 < w.heap.size + 3; omega))) _ _ _ (by first | (show w.heap.size + 1 < w.heap.size + 3; omega) | (show w.heap.size + 2 < w.heap.size + 3; omega))) _ _ _ (by first | (show w.heap.size + 1 < w.heap.size + 3; omega) | (show w.heap.size + 2 < w.heap.size + 3; omega))) _ _ _ (by first | (show w.heap.size + 1 < w.heap.size + 3; omega) | (show w.heap.size + 2 < w.heap.size + 3; omega))) _ _ _ (by first | (show w.heap.size + 1 < w.heap.size + 3; omega) | (show w.heap.size + 2 < w.heap.size + 3; omega))) _ _ _ (by first | (show w.heap.size + 1 < w.heap.size + 3; omega) | (show w.heap.size + 2 < w.heap.size + 3; omega))) _ _ _ (by first | (show w.heap.size + 1 < w.heap.size + 3; omega) | (show w.heap.size + 2 < w.heap.size + 3; omega))) (Below.drew (Below.refl _ _)))
                    · exact rowH (own_stay (own_set (own_set (own_set (own_set (own_set (own_set (own_set (own_set (own_set (HFN.out.2.1) _ _ _ (by first | (show w.heap.size + 1 < w.heap.size + 3; omega) | (show w.heap.size + 2 < w.heap.size + 3; omega))) _ _ _ (by first | (show w.heap.size + 1 < w.heap.size + 3; omega) | (show w.heap.size + 2 < w.heap.size + 3; omega))) _ _ _ (by first | (show w.heap.size + 1 < w.heap.size + 3; omega) | (show w.heap.size + 2 < w.heap.size + 3; omega))) _ _ _ (by first | (show w.heap.size + 1 < w.heap.size + 3; omega) | (show w.heap.size + 2 < w.heap.size + 3; omega))) _ _ _ (by first | (show w.heap.size + 1 < w.heap.size + 3; omega) | (show w.heap.size + 2 < w.heap.size + 3; omega))) _ _ _ (by first | (show w.heap.size + 1 < w.heap.size + 3; omega) | (show w.heap.size + 2 < w.heap.size + 3; omega))) _ _ _ (by first | (show w.heap.size + 1 < w.heap.size + 3; omega) | (show w.heap.size + 2 < w.heap.size + 3; omega))) _ _ _ (by first | (show w.heap.size + 1 < w.heap.size + 3; omega) | (show w.heap.size + 2 < w.heap.size + 3; omega))) _ _ _ (by first | (show w.heap.size + 1 < w.heap.size + 3; omega) | (show w.heap.size + 2 < w.heap.size + 3; omega))) (Below.drew (Below.refl _ _)))
                    · exact ((((((((((HFN.out.2.2).setCell (by first | (show w.heap.size ≤ w.heap.size + 1; omega) | (show w.heap.size ≤ w.heap.size + 2; omega)) _).setCell (by first | (show w.heap.size ≤ w.heap.size + 1; omega) | (show w.heap.size ≤ w.heap.size + 2; omega)) _).setCell (by first | (show w.heap.size ≤ w.heap.size + 1; omega) | (show w.heap.size ≤ w.heap.size + 2; omega)) _).setCell (by first | (show w.heap.size ≤ w.heap.size + 1; omega) | (show w.heap.size ≤ w.heap.size + 2; omega)) _).setCell (by first | (show w.heap.size ≤ w.heap.size + 1; omega) | (show w.heap.size ≤ w.heap.size + 2; omega)) _).setCell (by first | (show w.heap.size ≤ w.heap.size + 1; omega) | (show w.heap.size ≤ w.heap.size + 2; omega)) _).setCell (by first | (show w.heap.size ≤ w.heap.size + 1; omega) | (show w.heap.size ≤ w.heap.size + 2; omega)) _).setCell (by first | (show w.heap.size ≤ w.heap.size + 1; omega) | (show w.heap.size ≤ w.heap.size + 2; omega)) _).setCell (by first | (show w.heap.size ≤ w.heap.size + 1; omega) | (show w.heap.size ≤ w.heap.size + 2; omega)) _).drew
              · have HTL : Hid (es.tail.length = es.length - 1) := by show es.tail.length = es.length - 1; rw [List.length_tail]
                have NEWS : Hid (∀ (j : Nat) (u : Value), (es.tail.flatMap flM.c)[j]? = some u → V.cell? ((⟨g, 5, none⟩ : Addr).add j) = some u) := newsT HRV.out HH0.out.2.2
                go_wp2_with (at_builtin; refine wpList_append_own _ rfl _ _ 27 rfl (w.heap.size + 3) 38 i0 (.agg #[.int .i64 0, .string ByteArray.empty, .string ByteArray.empty, .string ByteArray.empty, .bool false]) 5 64 Try.underlying27 hi hz0 hz1 hz2 rfl (by decide) _ 0 [] rfl (by exact HOV.out) ⟨g, 5, none⟩ (es.length - 1) (cg - 1) (es.tail.flatMap flM.c) rfl (by rw [flat_len flM.c_len, HTL.out]) (by exact NEWS.out) (oneY _) (by unfold maxLen; omega) (by omega) (by omega) ?_)
                intro v1 wA hown1 hgrow1 hnil1
                obtain ⟨g5, c5, rfl, hg5, hg5l⟩ := form hown1 (fun e => by first | exact hnil1 e | (have := hnil1.1 e; cases this.1))
                have hgr1 : V.grownBy wA (some (wr.heap.size + 1)) := hgrow1
                have hpA := HPV.out.grown hgr1 (by have := (HPX.out.on hBr.out).lt; omega)
                have hownA : wA.ownsRow (w.heap.size + 3) 38 5 (.slice (some ⟨g5, 0, none⟩) AR.length c5) AR.length (AR.flatMap flM.c) := by rw [← HTA.out, HTL.out]; first | exact hown1 | simpa using hown1
                have HMA : Hid (wA.heap[wr.heap.size]? = some (.cells #[.int .i64 q, .string x, .string y, .string z, .bool ag] 38 (0, 0))) := grown_at hgr1 HMB.out (by simp)
                have u2 : wA.cell? ⟨w1.heap.size, 2, none⟩ = some (.slice (some ⟨g1, 0, none⟩) es.length c1) := bcell hpA.out rfl
                have u2f := bfree hpA.out 2
                have HPA : Hid (PX w sn nx es ms g h cg ms.length w1.heap.size (.slice (some ⟨g1, 0, none⟩) es.length c1) (.slice (some ⟨h1, 0, none⟩) ms.length c2) wA) := hpA
                have HOA : Hid (wA.ownsRow (w.heap.size + 3) 38 5 (.slice (some ⟨g5, 0, none⟩) AR.length c5) AR.length (AR.flatMap flM.c)) := hownA
                have hw1r : w1.heap.size < wr.heap.size := (HPX.out.on hBr.out).lt
                clear hown1 hgrow1 hnil1 hpA hownA hgr1 v2 hal hV
                go_wp2
                have hpY : PX w sn nx es ms g h cg ms.length w1.heap.size (.slice (some ⟨g5, 0, none⟩) AR.length c5) (.slice (some ⟨h1, 0, none⟩) ms.length c2) (wA.setCell ⟨w1.heap.size, 2, none⟩ (.slice (some ⟨g5, 0, none⟩) (es.length - 1) c5)) := by rw [← HTA.out, HTL.out]; exact HPA.out.put2 _
                have hoY : (wA.setCell ⟨w1.heap.size, 2, none⟩ (.slice (some ⟨g5, 0, none⟩) (es.length - 1) c5)).ownsRow (w.heap.size + 3) 38 5 (.slice (some ⟨g5, 0, none⟩) AR.length c5) AR.length (AR.flatMap flM.c) := owns_set HOA.out (owns_ne (by decide) HOA.out HPA.out.out) _
                have hMY : (wA.setCell ⟨w1.heap.size, 2, none⟩ (.slice (some ⟨g5, 0, none⟩) (es.length - 1) c5)).heap[wr.heap.size]? = some (.cells #[.int .i64 q, .string x, .string y, .string z, .bool ag] 38 (0, 0)) := boff HMA.out _ _ _ (by omega)
                obtain ⟨Y, hYY⟩ : ∃ Y, wA.setCell ⟨w1.heap.size, 2, none⟩ (.slice (some ⟨g5, 0, none⟩) (es.length - 1) c5) = Y := ⟨_, rfl⟩
                rw [hYY] at hpY hoY hMY ⊢
                have HPY : Hid (PX w sn nx es ms g h cg ms.length w1.heap.size (.slice (some ⟨g5, 0, none⟩) AR.length c5) (.slice (some ⟨h1, 0, none⟩) ms.length c2) Y) := hpY
                have HOY : Hid (Y.ownsRow (w.heap.size + 3) 38 5 (.slice (some ⟨g5, 0, none⟩) AR.length c5) AR.length (AR.flatMap flM.c)) := hoY
                have HMY : Hid (Y.heap[wr.heap.size]? = some (.cells #[.int .i64 q, .string x, .string y, .string z, .bool ag] 38 (0, 0))) := hMY
                have HHY : Hid (Row flH.c 7 Y Y.heap.size (some ⟨h, 0, none⟩) ms) := HE.out.inn hpY.bel
                have hn8 : w.heap.size ≠ w1.heap.size := by have := hpY.h8; omega
                obtain ⟨i1, ki, kz0, kz1, kz2⟩ := infoK
                clear hYY hpY hoY hMY HPA HOA HMA u2 u2f x0 x1 x2 x3 e0 e1 e2 e3 e4
                refine dk.region_gsets (ws w.heap.size ms.length h w1.heap.size av (off av ms.length) o t q x y z ag) [83, 84, 85, 86, 87, 88, 89, 90, 91, 92, 93, 94, 95, 96, 97, 98, 99, 100] (ta.C ⟨Y, 66, 7, (ms.take av).flatMap flH.c, [.int .i64 t, .int .i64 o, .int .i64 q, .string x, .string y, .string z, .bool ag], (ms.drop av).flatMap flH.c, av, ms.length - av, w1.heap.size, 3⟩ J0) ⟨0, .slice none 0 0, 0, .slice none 0 0, .slice none 0 0⟩ (by kernel_rfl) (by kernel_rfl) (fun _ => rfl) (by kernel_rfl) (ta.start _ _ _) ?each ?fin
                case each =>
                  refine ⟨ta.st0 (x := J0) (d := 83) (idx := 0) J0_up (by simp) rfl (by simp) (fun g => rfl) (fun g => rfl) (fun g e => rfl) (fun s W => by simp [execOp, go_sem]), ?_⟩
                  refine ⟨ta.quiet (by decide) (by simp) (.pointer (some ⟨w.heap.size, 3, none⟩)) (by rintro s _ ⟨⟩; exact dk.sets_on _ (by simp) _ rfl) (fun s W hW => by simp [execOp, go_sem, Act.eval, dk.sets_get, ws, List.lookup]), ?_⟩
                  refine ⟨ta.quiet (by decide) (by simp) (.slice (some ⟨h, 0, none⟩) ms.length ms.length) (by rintro s _ ⟨⟩; exact dk.sets_on _ (by simp) _ rfl) (fun s W hW => by have c : W.cell? ⟨w.heap.size, 3, none⟩ = some (.slice (some ⟨h, 0, none⟩) ms.length ms.length) := bcell (hW _ _ HPY.out.box hn8) rfl; simp [execOp, go_sem, Act.eval, dk.sets_get, ws, List.lookup, c]), ?_⟩
                  refine ⟨ta.quiet (by decide) (by simp) (.int .i64 av) (by rintro s _ ⟨⟩; exact dk.sets_on _ (by simp) _ rfl) (fun s W hW => by simp [execOp, go_sem, Act.eval, dk.sets_get, ws, List.lookup]), ?_⟩
                  refine ⟨ta.quiet (by decide) (by simp) (.slice (some ⟨h, 0, none⟩) av ms.length) (by rintro s _ ⟨⟩; exact dk.sets_on _ (by simp) _ rfl) (fun s W hW => by simp [execOp, go_sem, Act.eval, dk.sets_get, ws, List.lookup, hav]), ?_⟩
                  refine ⟨ta.st1 (x := J0) (d := 88) (s1 := 83) (s2 := 87) (idx := 5) (c := ms.length) (a := ⟨h, 0, none⟩) J0_up Try.underlying28 ki kz0 kz1 kz2 rfl (by show 0 < 7; decide) rfl rfl ⟨by simp, by simp, by simp⟩ (fun g => rfl) (fun g => rfl) (fun g => rfl) (fun g => rfl) (fun g v => rfl) (by show ((ms.take av).flatMap flH.c).length = av * 7; rw [flat_len flH.c_len, List.length_take, Nat.min_eq_left hav]) (fun W hb => news_take (HHY.out.inn hb) av) (oneK _) (by show av ≤ 1048576; omega) (by show (0 + av) * 80 ≤ 140737488355328; omega) ⟨⟨0, .data⟩, by simp, rfl, rfl⟩, ?_⟩
                  refine ⟨ta.quiet (by decide) (by simp) (.int .i64 t) (by rintro s _ ⟨⟩; exact dk.sets_on _ (by simp) _ rfl) (fun s W hW => by simp [execOp, go_sem, Act.eval, dk.sets_get, ws, List.lookup]), ?_⟩
                  refine ⟨ta.quiet (by decide) (by simp) (.int .i64 o) (by rintro s _ ⟨⟩; exact dk.sets_on _ (by simp) _ rfl) (fun s W hW => by simp [execOp, go_sem, Act.eval, dk.sets_get, ws, List.lookup]), ?_⟩
                  refine ⟨ta.quiet (by decide) (by simp) (.agg #[.int .i64 q, .string x, .string y, .string z, .bool ag]) (by rintro s _ ⟨⟩; exact dk.sets_on _ (by simp) _ rfl) (fun s W hW => by obtain ⟨d0, d1, d2, d3, d4⟩ := box5 (hW _ _ HMY.out (by show wr.heap.size ≠ w1.heap.size; omega)); simp [execOp, go_sem, Act.eval, dk.sets_get, ws, List.lookup, d0, d1, d2, d3, d4]), ?_⟩
                  refine ⟨ta.quiet (by decide) (by simp) (.agg #[.int .i64 t, .int .i64 o, .int .i64 q, .string x, .string y, .string z, .bool ag]) (by rintro s _ ⟨⟩; exact dk.sets_on _ (by simp) _ rfl) (fun s W hW => by simp [execOp, go_sem, Act.eval, dk.sets_get, ws, List.lookup]), ?_⟩
                  refine ⟨ta.st2 (x := J0) (d := 93) (idx := 10) J0_up (by simp) rfl (by simp) (fun g => rfl) (fun g => rfl) (fun g e => rfl) (fun s W => by simp [execOp, go_sem, Act.eval, dk.sets_get, ws, List.lookup]), ?_⟩
                  refine ⟨ta.st3 (x := J0) (d := 94) (s1 := 88) (s2 := 93) (idx := 11) J0_up Try.underlying28 ki kz0 kz1 kz2 rfl (by show 0 < 7; decide) rfl rfl ⟨by simp, by simp, by simp⟩ (fun g => rfl) (fun g => rfl) (fun g => rfl) (fun g => rfl) (fun g v => rfl) rfl (by intro u hu; simp at hu; rcases hu with rfl | rfl | rfl | rfl | rfl | rfl | rfl <;> rfl) (by show av ≤ 1048576; omega) (by show (av + 1) * 80 ≤ 140737488355328; omega) ⟨⟨5, .data⟩, by simp, rfl, rfl⟩ ⟨⟨10, .data⟩, by simp, rfl, rfl⟩, ?_⟩
                  refine ⟨ta.quiet (by decide) (by simp) (.pointer (some ⟨w.heap.size, 3, none⟩)) (by rintro s _ ⟨⟩; exact dk.sets_on _ (by simp) _ rfl) (fun s W hW => by simp [execOp, go_sem, Act.eval, dk.sets_get, ws, List.lookup]), ?_⟩
                  refine ⟨ta.quiet (by decide) (by simp) (.slice (some ⟨h, 0, none⟩) ms.length ms.length) (by rintro s _ ⟨⟩; exact dk.sets_on _ (by simp) _ rfl) (fun s W hW => by have c : W.cell? ⟨w.heap.size, 3, none⟩ = some (.slice (some ⟨h, 0, none⟩) ms.length ms.length) := bcell (hW _ _ HPY.out.box hn8) rfl; simp [execOp, go_sem, Act.eval, dk.sets_get, ws, List.lookup, c]), ?_⟩
                  refine ⟨ta.quiet (by decide) (by simp) (.int .i64 av) (by rintro s _ ⟨⟩; exact dk.sets_on _ (by simp) _ rfl) (fun s W hW => by simp [execOp, go_sem, Act.eval, dk.sets_get, ws, List.lookup]), ?_⟩
                  refine ⟨ta.quiet (by decide) (by simp) (.slice (some ⟨h, off av ms.length, none⟩) (ms.length - av) (ms.length - av)) (by rintro s _ ⟨⟩; exact dk.sets_on _ (by simp) _ rfl) (fun s W hW => match Nat.lt_or_ge av ms.length with | .inl hlt => (by have hne : ¬ av = ms.length := Nat.ne_of_lt hlt; have hne2 : ¬ ms.length = av := (fun e => hne e.symm); simp [execOp, go_sem, Act.eval, dk.sets_get, ws, List.lookup, off, hav, hne, hne2]) | .inr hge => (by have hee : av = ms.length := Nat.le_antisymm hav hge; simp [execOp, go_sem, Act.eval, dk.sets_get, ws, List.lookup, off, hee])), ?_⟩
                  refine ⟨ta.st4 (x := J0) (d := 99) (s1 := 94) (s2 := 98) (idx := 16) (c := ms.length - av) (a := ⟨h, off av ms.length, none⟩) J0_up Try.underlying28 ki kz0 kz1 kz2 rfl (by show 0 < 7; decide) rfl rfl ⟨by simp, by simp, by simp⟩ (fun g => rfl) (fun g => rfl) (fun g => rfl) (fun g => rfl) (fun g v => rfl) (by show ((ms.drop av).flatMap flH.c).length = (ms.length - av) * 7; rw [flat_len flH.c_len, List.length_drop]) (fun W hb => news_drop (HHY.out.inn hb) av hav) (oneK _) (by show av ≤ 1048576 ∧ ms.length - av ≤ 1048576; omega) (by show (av + 1 + (ms.length - av)) * 80 ≤ 140737488355328; omega) ⟨⟨11, .data⟩, by simp, rfl, rfl⟩, ?_⟩
                  refine ⟨ta.quiet (by decide) (by simp) (.pointer (some ⟨w1.heap.size, 3, none⟩)) (by rintro s _ ⟨⟩; exact dk.sets_on _ (by simp) _ rfl) (fun s W hW => by simp [execOp, go_sem, Act.eval, dk.sets_get, ws, List.lookup]), ?_⟩
                  exact ⟨ta.st5 (x := J0) J0_up (by simp) rfl HPY.out.lt (fun s W hW hv => by obtain ⟨va, vn, vc, hv⟩ := hv; have hu := hW _ _ HPY.out.out; have c : W.cell? ⟨w1.heap.size, 3, none⟩ = some (.slice (some ⟨h1, 0, none⟩) ms.length c2) := bcell hu rfl; have f := bfree hu 3; rw [hv]; simp [execOp, go_sem, Act.eval, dk.sets_get, ws, List.lookup, c, f, hv]) ⟨⟨16, .data⟩, by simp, rfl, rfl⟩, trivial⟩
                case fin =>
                  intro gg L W hL hC
                  obtain ⟨V2, hV2, hWV, hown⟩ := ta.done hC J0_up (N := 19) (by decide) hL
                  replace hown : W.ownsRow Y.heap.size 66 7 gg.v3 (av + 1 + (ms.length - av)) ((ms.take av).flatMap flH.c ++ [.int .i64 t, .int .i64 o, .int .i64 q, .string x, .string y, .string z, .bool ag] ++ (ms.drop av).flatMap flH.c) := hown
                  have hlen : av + 1 + (ms.length - av) = AH.length := by rw [← HAH2.out]; simp; omega
                  have hfl : (ms.take av).flatMap flH.c ++ [.int .i64 t, .int .i64 o, .int .i64 q, .string x, .string y, .string z, .bool ag] ++ (ms.drop av).flatMap flH.c = AH.flatMap flH.c := by rw [← HAH2.out]; simp [flH.c]
                  rw [hfl, hlen] at hown
                  obtain ⟨h5, d5, hv3⟩ := form_pos hown (by rw [← hlen]; omega)
                  rw [hv3] at hown hWV
                  replace hV2 : Below Y.heap.size Y V2 := hV2
                  replace hWV : W = V2.setCell ⟨w1.heap.size, 3, none⟩ (.slice (some ⟨h5, 0, none⟩) AH.length d5) := hWV
                  have hpW : PX w sn nx es ms g h cg ms.length w1.heap.size (.slice (some ⟨g5, 0, none⟩) AR.length c5) (.slice (some ⟨h5, 0, none⟩) AH.length d5) W := by rw [hWV]; exact (HPY.out.on hV2).put3 _
                  have hoeW : W.ownsRow (w.heap.size + 3) 38 5 (.slice (some ⟨g5, 0, none⟩) AR.length c5) AR.length (AR.flatMap flM.c) := by rw [hWV]; exact owns_set (own_stay HOY.out hV2) (owns_ne (by decide) (own_stay HOY.out hV2) (HPY.out.on hV2).out) _
                  have hohW : W.ownsRow (w.heap.size + 3) 66 7 (.slice (some ⟨h5, 0, none⟩) AH.length d5) AH.length (AH.flatMap flH.c) := own_low hown (by have := HPY.out.lt; have := HPY.out.h8; omega)
                  have hMW : W.heap[wr.heap.size]? = some (.cells #[.int .i64 q, .string x, .string y, .string z, .bool ag] 38 (0, 0)) := by rw [hWV]; exact boff (bstay HMY.out hV2 (Array.getElem?_eq_some_iff.1 HMY.out).1) _ _ _ (by omega)
                  obtain ⟨d0, d1, d2, d3, d4⟩ := box5 hMW
                  have hmn1 : wr.heap.size ≠ w.heap.size + 1 := by omega
                  have hmn2 : wr.heap.size ≠ w.heap.size + 2 := by omega
                  have hmn3 : w.heap.size + 1 ≠ wr.heap.size := by omega
                  have hmn4 : w.heap.size + 2 ≠ wr.heap.size := by omega
                  simp only [dk.sets, ws, hv3]
                  have HPW : Hid (PX w sn nx es ms g h cg ms.length w1.heap.size (.slice (some ⟨g5, 0, none⟩) AR.length c5) (.slice (some ⟨h5, 0, none⟩) AH.length d5) W) := hpW
                  have HOEW : Hid (W.ownsRow (w.heap.size + 3) 38 5 (.slice (some ⟨g5, 0, none⟩) AR.length c5) AR.length (AR.flatMap flM.c)) := hoeW
                  have HOHW : Hid (W.ownsRow (w.heap.size + 3) 66 7 (.slice (some ⟨h5, 0, none⟩) AH.length d5) AH.length (AH.flatMap flH.c)) := hohW
                  clear hC hL hV2 hWV hown hlen hfl hv3 hpW hoeW hohW hMW
                  have hp9 := HPW.out
                  have z0 : W.cell? ⟨w.heap.size + 1, 0, none⟩ = some (.string ⟨#[]⟩) := bcell hp9.res rfl
                  have z1 : W.cell? ⟨w.heap.size + 1, 1, none⟩ = some (.int .i64 0) := bcell hp9.res rfl
                  have z2 : W.cell? ⟨w.heap.size + 1, 2, none⟩ = some (.slice none 0 0) := bcell hp9.res rfl
                  have z3 : W.cell? ⟨w.heap.size + 1, 3, none⟩ = some (.slice none 0 0) := bcell hp9.res rfl
                  have y0 : W.cell? ⟨w.heap.size + 2, 0, none⟩ = some (.int .i64 0) := bcell hp9.rem rfl
                  have y1 : W.cell? ⟨w.heap.size + 2, 1, none⟩ = some (.string ⟨#[]⟩) := bcell hp9.rem rfl
                  have y2 : W.cell? ⟨w.heap.size + 2, 2, none⟩ = some (.string ⟨#[]⟩) := bcell hp9.rem rfl
                  have y3 : W.cell? ⟨w.heap.size + 2, 3, none⟩ = some (.string ⟨#[]⟩) := bcell hp9.rem rfl
                  have y4 : W.cell? ⟨w.heap.size + 2, 4, none⟩ = some (.bool false) := bcell hp9.rem rfl
                  have f0 := bfree hp9.res 0
                  have f1 := bfree hp9.res 1
                  have f2 := bfree hp9.res 2
                  have f3 := bfree hp9.res 3
                  have e0 := bfree hp9.rem 0
                  have e1 := bfree hp9.rem 1
                  have e2 := bfree hp9.rem 2
                  have e3 := bfree hp9.rem 3
                  have e4 := bfree hp9.rem 4
                  have n0 : W.cell? ⟨w1.heap.size, 0, none⟩ = some (.string sn) := bcell hp9.out rfl
                  have n1 : W.cell? ⟨w1.heap.size, 1, none⟩ = some (.int .i64 nx) := bcell hp9.out rfl
                  have n2 : W.cell? ⟨w1.heap.size, 2, none⟩ = some (.slice (some ⟨g5, 0, none⟩) AR.length c5) := bcell hp9.out rfl
                  have n3 : W.cell? ⟨w1.heap.size, 3, none⟩ = some (.slice (some ⟨h5, 0, none⟩) AH.length d5) := bcell hp9.out rfl
                  have hne1 : w1.heap.size ≠ w.heap.size + 1 := by have := hp9.h8; omega
                  have hne2 : w1.heap.size ≠ w.heap.size + 2 := by have := hp9.h8; omega
                  have hne3 : w.heap.size + 1 ≠ w1.heap.size := by have := hp9.h8; omega
                  have hne4 : w.heap.size + 2 ≠ w1.heap.size := by have := hp9.h8; omega
                  have HFN : Hid (W.ownsRow (w.heap.size + 3) 38 5 (.slice (some ⟨g5, 0, none⟩) AR.length c5) AR.length (AR.flatMap flM.c) ∧ W.ownsRow (w.heap.size + 3) 66 7 (.slice (some ⟨h5, 0, none⟩) AH.length d5) AH.length (AH.flatMap flH.c) ∧ Below w.heap.size w W) := ⟨HOEW.out, HOHW.out, hp9.bel⟩
                  clear hp9
                  go_wp2
                  go_region_with (fail)
                  all_goals go_wp2
                  all_goals
                    refine bodyPost_ret (v := .tuple #[.agg #[.string sn, .int .i64 nx, .slice (some ⟨g5, 0, none⟩) AR.length c5, .slice (some ⟨h5, 0, none⟩) AH.length d5], .agg #[.int .i64 q, .string x, .string y, .string z, .bool ag], .bool true]) (by simp [results, Try.results14, go_sem, z0, z1, z2, z3, y0, y1, y2, y3, y4]) rfl ⟨_, _, _, _, rfl, ?_, ?_, ?_⟩
                    · exact rowM (own_stay (own_set (own_set (own_set (own_set (own_set (own_set (own_set (own_set (own_set (HFN.out.1) _ _ _ (by first | (show w.heap.size + 1 < w.heap.size + 3; omega) | (show w.heap.size + 2 < w.heap.size + 3; omega))) _ _ _ (by first | (show w.heap.size + 1 < w.heap.size + 3; omega) | (show w.heap.size + 2 < w.heap.size + 3; omega))) _ _ _ (by first | (show w.heap.size + 1 < w.heap.size + 3; omega) | (show w.heap.size + 2 < w.heap.size + 3; omega))) _ _ _ (by first | (show w.heap.size + 1 < w.heap.size + 3; omega) | (show w.heap.size + 2 < w.heap.size + 3; omega))) _ _ _ (by first | (show w.heap.size + 1 < w.heap.size + 3; omega) | (show w.heap.size + 2 < w.heap.size + 3; omega))) _ _ _ (by first | (show w.heap.size + 1 < w.heap.size + 3; omega) | (show w.heap.size + 2 < w.heap.size + 3; omega))) _ _ _ (by first | (show w.heap.size + 1 < w.heap.size + 3; omega) | (show w.heap.size + 2 < w.heap.size + 3; omega))) _ _ _ (by first | (show w.heap.size + 1 < w.heap.size + 3; omega) | (show w.heap.size + 2 < w.heap.size + 3; omega))) _ _ _ (by first | (show w.heap.size + 1 < w.heap.size + 3; omega) | (show w.heap.size + 2 < w.heap.size + 3; omega))) (Below.drew (Below.refl _ _)))
                    · exact rowH (own_stay (own_set (own_set (own_set (own_set (own_set (own_set (own_set (own_set (own_set (HFN.out.2.1) _ _ _ (by first | (show w.heap.size + 1 < w.heap.size + 3; omega) | (show w.heap.size + 2 < w.heap.size + 3; omega))) _ _ _ (by first | (show w.heap.size + 1 < w.heap.size + 3; omega) | (show w.heap.size + 2 < w.heap.size + 3; omega))) _ _ _ (by first | (show w.heap.size + 1 < w.heap.size + 3; omega) | (show w.heap.size + 2 < w.heap.size + 3; omega))) _ _ _ (by first | (show w.heap.size + 1 < w.heap.size + 3; omega) | (show w.heap.size + 2 < w.heap.size + 3; omega))) _ _ _ (by first | (show w.heap.size + 1 < w.heap.size + 3; omega) | (show w.heap.size + 2 < w.heap.size + 3; omega))) _ _ _ (by first | (show w.heap.size + 1 < w.heap.size + 3; omega) | (show w.heap.size + 2 < w.heap.size + 3; omega))) _ _ _ (by first | (show w.heap.size + 1 < w.heap.size + 3; omega) | (show w.heap.size + 2 < w.heap.size + 3; omega))) _ _ _ (by first | (show w.heap.size + 1 < w.heap.size + 3; omega) | (show w.heap.size + 2 < w.heap.size + 3; omega))) _ _ _ (by first | (show w.heap.size + 1 < w.heap.size + 3; omega) | (show w.heap.size + 2 < w.heap.size + 3; omega))) (Below.drew (Below.refl _ _)))
                    · exact ((((((((((HFN.out.2.2).setCell (by first | (show w.heap.size ≤ w.heap.size + 1; omega) | (show w.heap.size ≤ w.heap.size + 2; omega)) _).setCell (by first | (show w.heap.size ≤ w.heap.size + 1; omega) | (show w.heap.size ≤ w.heap.size + 2; omega)) _).setCell (by first | (show w.heap.size ≤ w.heap.size + 1; omega) | (show w.heap.size ≤ w.heap.size + 2; omega)) _).setCell (by first | (show w.heap.size ≤ w.heap.size + 1; omega) | (show w.heap.size ≤ w.heap.size + 2; omega)) _).setCell (by first | (show w.heap.size ≤ w.heap.size + 1; omega) | (show w.heap.size ≤ w.heap.size + 2; omega)) _).setCell (by first | (show w.heap.size ≤ w.heap.size + 1; omega) | (show w.heap.size ≤ w.heap.size + 2; omega)) _).setCell (by first | (show w.heap.size ≤ w.heap.size + 1; omega) | (show w.heap.size ≤ w.heap.size + 2; omega)) _).setCell (by first | (show w.heap.size ≤ w.heap.size + 1; omega) | (show w.heap.size ≤ w.heap.size + 2; omega)) _).setCell (by first | (show w.heap.size ≤ w.heap.size + 1; omega) | (show w.heap.size ≤ w.heap.size + 2; omega)) _).drew
end Go.Proofs.Ytcddjfdikedldaa.qos
