/- Whether an owner and a tag may be those of a message that is handed out: the program's handOk, the specification's l01In. -/
import Derived.Test.YtnlcmheahihlpaaQw05
import Derived.Test.YtnlcmheahihlpaaQuietIn
import Derived.Test.YtnlcmheahihlpaaFlatLib
import Derived.Test.YtnlcmheahihlpaaQSpecWay
import Derived.Deep.QuietTactic
import Derived.BigQuiet

/- The library's binary search among held ones that are ascending; new memory alone. -/
namespace Go.Proofs.Ytnlcmheahihlpaa.sch
open Go.ChangeShapes Go.WideShapes Go.ChangeAt Go.RowKit Go.Proofs.Ytnlcmheahihlpaa.fl Go.Proofs.Ytnlcmheahihlpaa.qc
set_option linter.unusedVariables false

/-- held ones in a row -/
def Rh (w : World) (g : Nat) (l : List flH.Hd) : Prop := g < w.heap.size ∧ ∀ (i : Nat) (e : flH.Hd), l[i]? = some e → w.cell? ⟨g, i * 7, none⟩ = some (.int .i64 e.t) ∧ w.cell? ⟨g, i * 7 + 1, none⟩ = some (.int .i64 e.o) ∧ w.cell? ⟨g, i * 7 + 2, none⟩ = some (.int .i64 e.m.q) ∧ w.cell? ⟨g, i * 7 + 3, none⟩ = some (.string e.m.x) ∧ w.cell? ⟨g, i * 7 + 4, none⟩ = some (.string e.m.k) ∧ w.cell? ⟨g, i * 7 + 5, none⟩ = some (.string e.m.b) ∧ w.cell? ⟨g, i * 7 + 6, none⟩ = some (.bool e.m.a)
theorem Rh.below {w w' : World} {g : Nat} {l : List flH.Hd} (h : Rh w g l) (hb : Below w.heap.size w w') : Rh w' g l :=
  ⟨Nat.lt_of_lt_of_le h.1 hb.size, fun i e he => by
    obtain ⟨h0, h1, h2, h3, h4, h5, h6⟩ := h.2 i e he
    exact ⟨(hb.cell h.1).trans h0, (hb.cell h.1).trans h1, (hb.cell h.1).trans h2, (hb.cell h.1).trans h3, (hb.cell h.1).trans h4, (hb.cell h.1).trans h5, (hb.cell h.1).trans h6⟩⟩
theorem rh_of {w : World} {B g : Nat} {l : List flH.Hd} (hg : g < w.heap.size) (h : Row flH.c 7 w B (some ⟨g, 0, none⟩) l) : Rh w g l := ⟨hg, fun i e he => by
  rcases h with h0 | ⟨b', off', hh, hlt, hc⟩
  · rw [h0] at he; simp at he
  · cases hh
    have := fun j u (hj : (flH.c e)[j]? = some u) => hc i _ he j u hj
    simp only [Nat.zero_add] at this
    exact ⟨this 0 _ rfl, this 1 _ rfl, this 2 _ rfl, this 3 _ rfl, this 4 _ rfl, this 5 _ rfl, this 6 _ rfl⟩⟩
def MonH (l : List flH.Hd) (t : flH.Hd) : Prop := ∀ (i j : Nat) a b, i ≤ j → l[i]? = some a → l[j]? = some b → cmpH b t < 0 → cmpH a t < 0
structure PosH (l : List flH.Hd) (t : flH.Hd) (p : Nat) : Prop where
  le : p ≤ l.length
  lt : ∀ (i : Nat) a, i < p → l[i]? = some a → cmpH a t < 0
  ge : ∀ (i : Nat) a, p ≤ i → l[i]? = some a → 0 ≤ cmpH a t

set_option maxRecDepth 100000 in
set_option maxHeartbeats 8000000 in
theorem search_held (l : List flH.Hd) (g c : Nat) (nt no nq : Int) (nx nk nb : ByteArray) (na : Bool) (w : World) (hl : l.length ≤ 1048576) (hE : Rh w g l) (hM : MonH l ⟨nt, no, ⟨nq, nx, nk, nb, na⟩⟩) :
    Calls Try.prog 54 #[.slice (some ⟨g, 0, none⟩) l.length c, .agg #[.int .i64 nt, .int .i64 no, .int .i64 nq, .string nx, .string nk, .string nb, .bool na], .func (.func 34) #[] #[]] w fun r w' => (∃ (p : Nat) (b : Bool), r = .returned (.tuple #[.int .i64 p, .bool b]) ∧ PosH l ⟨nt, no, ⟨nq, nx, nk, nb, na⟩⟩ p ∧ (b = true ↔ ∃ a, l[p]? = some a ∧ cmpH a ⟨nt, no, ⟨nq, nx, nk, nb, na⟩⟩ = 0)) ∧ Below w.heap.size w w' := by
  have hb : Below w.heap.size w (w.alloc (.cells #[.int .i64 nt, .int .i64 no, .int .i64 nq, .string nx, .string nk, .string nb, .bool na] 55)) := (Below.refl _ _).alloc (Nat.le_refl _) _
  have HE : Hid (Rh w g l) := hE
  have HM : Hid (MonH l ⟨nt, no, ⟨nq, nx, nk, nb, na⟩⟩) := hM
  have tb := heap_alloc_new w (.cells #[.int .i64 nt, .int .i64 no, .int .i64 nq, .string nx, .string nk, .string nb, .bool na] 55)
  have hlt : w.heap.size < (w.alloc (.cells #[.int .i64 nt, .int .i64 no, .int .i64 nq, .string nx, .string nk, .string nb, .bool na] 55)).heap.size := by simp
  obtain ⟨W, hW⟩ : ∃ W, w.alloc (.cells #[.int .i64 nt, .int .i64 no, .int .i64 nq, .string nx, .string nk, .string nb, .bool na] 55) = W := ⟨_, rfl⟩
  rw [hW] at hb tb hlt
  have HTB : Hid (W.heap[w.heap.size]? = some (.cells #[.int .i64 nt, .int .i64 no, .int .i64 nq, .string nx, .string nk, .string nb, .bool na] 55 (0, 0))) := tb
  have HEW : Hid (Rh W g l) := HE.out.below hb
  clear hE hM tb
  go_enter Try.func54, Try.ntmps54
  go_wp2
  clear hW
  go_loopw [9, 10, 11] (fun v x _ wr => ∃ (i j : Nat), i ≤ j ∧ j ≤ l.length ∧ v = .int .i64 i ∧ x = .int .i64 j ∧ Hid ((∀ (t : Nat) a, t < i → l[t]? = some a → cmpH a ⟨nt, no, ⟨nq, nx, nk, nb, na⟩⟩ < 0) ∧ ∀ (t : Nat) a, j ≤ t → l[t]? = some a → 0 ≤ cmpH a ⟨nt, no, ⟨nq, nx, nk, nb, na⟩⟩) ∧ Below W.heap.size W wr) (fun v x _ _ => (intOf x).toNat - (intOf v).toNat)
  case atStart => exact ⟨0, l.length, Nat.zero_le _, Nat.le_refl _, rfl, rfl, ⟨fun t a h => by omega, fun t a h ha => by have := (List.getElem?_eq_some_iff.1 ha).1; omega⟩, Below.refl _ _⟩
  case round =>
    obtain ⟨i, j, hij, hjl, rfl, rfl, hinv, hbel⟩ := hrel
    have hbs := hbel.size
    by_cases hlt2 : i < j
    · obtain ⟨h, hh, hh1, hh2⟩ : ∃ h : Nat, ((i : Int) + (j : Int)) / 2 = (h : Int) ∧ i ≤ h ∧ h < j := ⟨(i + j) / 2, by omega, by omega, by omega⟩
      have g0 : l[h]? = some l[h] := List.getElem?_eq_getElem (by omega)
      obtain ⟨a0, a1, a2, a3, a4, a5, a6⟩ := (HEW.out.below hbel).2 h _ g0
      have t0 : wr.cell? ⟨w.heap.size, 0, none⟩ = some (.int .i64 nt) := by
        have := (hbel.block w.heap.size hlt).trans HTB.out
        simp [World.cell?, this]
      have t1 : wr.cell? ⟨w.heap.size, 1, none⟩ = some (.int .i64 no) := by
        have := (hbel.block w.heap.size hlt).trans HTB.out
        simp [World.cell?, this]
      have t2 : wr.cell? ⟨w.heap.size, 2, none⟩ = some (.int .i64 nq) := by
        have := (hbel.block w.heap.size hlt).trans HTB.out
        simp [World.cell?, this]
      have t3 : wr.cell? ⟨w.heap.size, 3, none⟩ = some (.string nx) := by
        have := (hbel.block w.heap.size hlt).trans HTB.out
        simp [World.cell?, this]
      have t4 : wr.cell? ⟨w.heap.size, 4, none⟩ = some (.string nk) := by
        have := (hbel.block w.heap.size hlt).trans HTB.out
        simp [World.cell?, this]
      have t5 : wr.cell? ⟨w.heap.size, 5, none⟩ = some (.string nb) := by
        have := (hbel.block w.heap.size hlt).trans HTB.out
        simp [World.cell?, this]
      have t6 : wr.cell? ⟨w.heap.size, 6, none⟩ = some (.bool na) := by
        have := (hbel.block w.heap.size hlt).trans HTB.out
        simp [World.cell?, this]
      have HG0 : Hid (l[h]? = some l[h]) := g0
      obtain ⟨⟨vt, vo, ⟨vq, vx, vk, vb, va⟩⟩, ha⟩ : ∃ e, l[h] = e := ⟨_, rfl⟩
      rw [ha] at a0 a1 a2 a3 a4 a5 a6 HG0
      have hcmp := qc.compare_held ⟨vt, vo, ⟨vq, vx, vk, vb, va⟩⟩ ⟨nt, no, ⟨nq, nx, nk, nb, na⟩⟩ wr.drew
      obtain ⟨z, hz⟩ : ∃ z, cmpH ⟨vt, vo, ⟨vq, vx, vk, vb, va⟩⟩ ⟨nt, no, ⟨nq, nx, nk, nb, na⟩⟩ = z := ⟨_, rfl⟩
      rw [hz] at hcmp
      have HZ : Hid (cmpH ⟨vt, vo, ⟨vq, vx, vk, vb, va⟩⟩ ⟨nt, no, ⟨nq, nx, nk, nb, na⟩⟩ = z) := hz
      have i2 : (h : Int) < (l.length : Int) := by omega
      clear g0 ha hz
      by_cases hneg : z < 0
      · have hinv2 : Hid ((∀ (t : Nat) a, t < h + 1 → l[t]? = some a → cmpH a ⟨nt, no, ⟨nq, nx, nk, nb, na⟩⟩ < 0) ∧ ∀ (t : Nat) a, j ≤ t → l[t]? = some a → 0 ≤ cmpH a ⟨nt, no, ⟨nq, nx, nk, nb, na⟩⟩) := ⟨fun t a ht hta => HM.out t h a _ (by omega) hta HG0.out (by show cmpH ⟨vt, vo, ⟨vq, vx, vk, vb, va⟩⟩ ⟨nt, no, ⟨nq, nx, nk, nb, na⟩⟩ < 0; rw [HZ.out]; exact hneg), hinv.out.2⟩
        go_wp2
        go_region_with (go_at_call 34; refine hcmp.mono ?_; rintro e w1 ⟨rfl, hb1⟩)
        all_goals go_wp2
        all_goals go_roundw
        all_goals first | exact ⟨h + 1, j, by omega, hjl, by go_num, rfl, hinv2, hbel.drew.trans (hb1.mono hbs)⟩ | (simp [intOf]; omega)
      · have hinv2 : Hid ((∀ (t : Nat) a, t < i → l[t]? = some a → cmpH a ⟨nt, no, ⟨nq, nx, nk, nb, na⟩⟩ < 0) ∧ ∀ (t : Nat) a, h ≤ t → l[t]? = some a → 0 ≤ cmpH a ⟨nt, no, ⟨nq, nx, nk, nb, na⟩⟩) := ⟨hinv.out.1, fun t a ht hta => by
          by_cases hn : cmpH a ⟨nt, no, ⟨nq, nx, nk, nb, na⟩⟩ < 0
          · have h3 := HM.out h t _ a ht HG0.out hta hn
            have h4 : cmpH ⟨vt, vo, ⟨vq, vx, vk, vb, va⟩⟩ ⟨nt, no, ⟨nq, nx, nk, nb, na⟩⟩ < 0 := h3
            rw [HZ.out] at h4
            exact absurd h4 hneg
          · omega⟩
        have hge : (0 : Int) ≤ z := by omega
        go_wp2
        go_region_with (go_at_call 34; refine hcmp.mono ?_; rintro e w1 ⟨rfl, hb1⟩)
        all_goals go_wp2
        all_goals go_roundw
        all_goals first | exact ⟨i, h, by omega, by omega, rfl, rfl, hinv2, hbel.drew.trans (hb1.mono hbs)⟩ | (simp [intOf]; omega)
    · obtain rfl : i = j := by omega
      have hpos : Hid (PosH l ⟨nt, no, ⟨nq, nx, nk, nb, na⟩⟩ i) := ⟨hjl, hinv.out.1, hinv.out.2⟩
      by_cases hil : i < l.length
      · have g0 : l[i]? = some l[i] := List.getElem?_eq_getElem hil
        obtain ⟨a0, a1, a2, a3, a4, a5, a6⟩ := (HEW.out.below hbel).2 i _ g0
        have t0 : wr.cell? ⟨w.heap.size, 0, none⟩ = some (.int .i64 nt) := by
          have := (hbel.block w.heap.size hlt).trans HTB.out
          simp [World.cell?, this]
        have t1 : wr.cell? ⟨w.heap.size, 1, none⟩ = some (.int .i64 no) := by
          have := (hbel.block w.heap.size hlt).trans HTB.out
          simp [World.cell?, this]
        have t2 : wr.cell? ⟨w.heap.size, 2, none⟩ = some (.int .i64 nq) := by
          have := (hbel.block w.heap.size hlt).trans HTB.out
          simp [World.cell?, this]
        have t3 : wr.cell? ⟨w.heap.size, 3, none⟩ = some (.string nx) := by
          have := (hbel.block w.heap.size hlt).trans HTB.out
          simp [World.cell?, this]
        have t4 : wr.cell? ⟨w.heap.size, 4, none⟩ = some (.string nk) := by
          have := (hbel.block w.heap.size hlt).trans HTB.out
          simp [World.cell?, this]
        have t5 : wr.cell? ⟨w.heap.size, 5, none⟩ = some (.string nb) := by
          have := (hbel.block w.heap.size hlt).trans HTB.out
          simp [World.cell?, this]
        have t6 : wr.cell? ⟨w.heap.size, 6, none⟩ = some (.bool na) := by
          have := (hbel.block w.heap.size hlt).trans HTB.out
          simp [World.cell?, this]
        have HG0 : Hid (l[i]? = some l[i]) := g0
        obtain ⟨⟨vt, vo, ⟨vq, vx, vk, vb, va⟩⟩, ha⟩ : ∃ e, l[i] = e := ⟨_, rfl⟩
        rw [ha] at a0 a1 a2 a3 a4 a5 a6 HG0
        have hcmp := qc.compare_held ⟨vt, vo, ⟨vq, vx, vk, vb, va⟩⟩ ⟨nt, no, ⟨nq, nx, nk, nb, na⟩⟩ wr.drew
        obtain ⟨z, hz⟩ : ∃ z, cmpH ⟨vt, vo, ⟨vq, vx, vk, vb, va⟩⟩ ⟨nt, no, ⟨nq, nx, nk, nb, na⟩⟩ = z := ⟨_, rfl⟩
        rw [hz] at hcmp
        have HZ : Hid (cmpH ⟨vt, vo, ⟨vq, vx, vk, vb, va⟩⟩ ⟨nt, no, ⟨nq, nx, nk, nb, na⟩⟩ = z) := hz
        have i2 : (i : Int) < (l.length : Int) := by omega
        have hd : decide ((i : Int) < (l.length : Int)) = true := by simp; omega
        have kc : ∀ N : qi.Cls wr, Calls Try.prog 34 #[.agg #[.int .i64 vt, .int .i64 vo, .int .i64 vq, .string vx, .string vk, .string vb, .bool va], .agg #[.int .i64 nt, .int .i64 no, .int .i64 nq, .string nx, .string nk, .string nb, .bool na]] N.x fun e w' => e = .returned (.int .i64 z) ∧ qi.T wr w' := fun N => by
          have h := qc.compare_held ⟨vt, vo, ⟨vq, vx, vk, vb, va⟩⟩ ⟨nt, no, ⟨nq, nx, nk, nb, na⟩⟩ N.x
          rw [HZ.out] at h
          exact h.mono fun e w' ⟨h1, h2⟩ => ⟨h1, N.h.next h2⟩
        have hgl := (HEW.out.below hbel).1
        have htl : w.heap.size < wr.heap.size := Nat.lt_of_lt_of_le hlt hbs
        have A0 := fun N : qi.Cls wr => (Below.cell N.h (p := ⟨g, i * 7, none⟩) hgl).trans a0
        have A1 := fun N : qi.Cls wr => (Below.cell N.h (p := ⟨g, i * 7 + 1, none⟩) hgl).trans a1
        have A2 := fun N : qi.Cls wr => (Below.cell N.h (p := ⟨g, i * 7 + 2, none⟩) hgl).trans a2
        have A3 := fun N : qi.Cls wr => (Below.cell N.h (p := ⟨g, i * 7 + 3, none⟩) hgl).trans a3
        have A4 := fun N : qi.Cls wr => (Below.cell N.h (p := ⟨g, i * 7 + 4, none⟩) hgl).trans a4
        have A5 := fun N : qi.Cls wr => (Below.cell N.h (p := ⟨g, i * 7 + 5, none⟩) hgl).trans a5
        have A6 := fun N : qi.Cls wr => (Below.cell N.h (p := ⟨g, i * 7 + 6, none⟩) hgl).trans a6
        have T0 := fun N : qi.Cls wr => (Below.cell N.h (p := ⟨w.heap.size, 0, none⟩) htl).trans t0
        have T1 := fun N : qi.Cls wr => (Below.cell N.h (p := ⟨w.heap.size, 1, none⟩) htl).trans t1
        have T2 := fun N : qi.Cls wr => (Below.cell N.h (p := ⟨w.heap.size, 2, none⟩) htl).trans t2
        have T3 := fun N : qi.Cls wr => (Below.cell N.h (p := ⟨w.heap.size, 3, none⟩) htl).trans t3
        have T4 := fun N : qi.Cls wr => (Below.cell N.h (p := ⟨w.heap.size, 4, none⟩) htl).trans t4
        have T5 := fun N : qi.Cls wr => (Below.cell N.h (p := ⟨w.heap.size, 5, none⟩) htl).trans t5
        have T6 := fun N : qi.Cls wr => (Below.cell N.h (p := ⟨w.heap.size, 6, none⟩) htl).trans t6
        clear g0 ha hz hcmp a0 a1 a2 a3 a4 a5 a6 t0 t1 t2 t3 t4 t5 t6
        go_wp2
        refine qi.region_in wr (qi.T.refl wr) (by kernel_rfl) (by kernel_rfl) ?_
        repeat (go_big_quiet_step (first | (go_at_call 34; refine (kc _).mono ?_; rintro e wx ⟨rfl, hTx⟩; exact ⟨rfl, ⟨wx, hTx⟩, rfl⟩)))
        refine wpQuiet_nil ?_
        rintro _ ⟨N, rfl⟩
        have hN := N.h
        generalize N.x = wN at hN ⊢
        clear N kc A0 A1 A2 A3 A4 A5 A6 T0 T1 T2 T3 T4 T5 T6
        go_wp2
        go_ret2
        exact ⟨⟨i, z == 0, rfl, hpos.out, by simp; rw [← HZ.out]; exact ⟨fun h => ⟨_, HG0.out, h⟩, fun ⟨a, ha, h⟩ => by rw [HG0.out] at ha; cases ha; exact h⟩⟩, hb.trans ((hbel.trans (Below.mono hN hbs)).mono (by omega))⟩
      · have hd : decide ((i : Int) < (l.length : Int)) = false := by simp; omega
        have hd2 : ¬ (i : Int) < (l.length : Int) := by omega
        go_wp2
        refine qi.region_in wr (qi.T.refl wr) (by kernel_rfl) (by kernel_rfl) ?_
        repeat (go_big_quiet_step (first | (go_at_call 34; fail)))
        refine wpQuiet_nil ?_
        rintro _ ⟨N, rfl⟩
        have hN := N.h
        generalize N.x = wN at hN ⊢
        clear N
        go_wp2
        go_ret2
        exact ⟨⟨i, false, rfl, hpos.out, by simp; intro a ha; have := (List.getElem?_eq_some_iff.1 ha).1; omega⟩, hb.trans ((hbel.trans (Below.mono hN hbs)).mono (by omega))⟩
end Go.Proofs.Ytnlcmheahihlpaa.sch

/- Pop: whether it can be, where the message stands among the held ones, and what comes out. -/
namespace Go.Proofs.Ytnlcmheahihlpaa.qpp
open Go.ChangeShapes Go.WideShapes Go.ChangeAt Go.RowKit Go.Proofs.Ytnlcmheahihlpaa.fl Go.Proofs.Ytnlcmheahihlpaa.qsp Go.Proofs.Ytnlcmheahihlpaa.qc Go.Proofs.Ytnlcmheahihlpaa.sch
set_option linter.unusedVariables false

def hand (o t : Int) : Bool := decide (0 ≤ o ∧ o ≤ 1000) && decide (1 ≤ t ∧ t ≤ 1000000000)
/-- one of that owner has the tag, or a greater one -/
def late (o t : Int) (h : flH.Hd) : Bool := decide (h.o = o) && decide (t ≤ h.t)
/-- behind the last one of the first k whose owner is not greater -/
def atO (o : Int) (hs : List flH.Hd) : Nat → Nat
  | 0 => 0
  | k + 1 => match hs[k]? with
    | some h => if h.o ≤ o then k + 1 else atO o hs k
    | none => atO o hs k
theorem atO_le (o : Int) (hs : List flH.Hd) : ∀ k, atO o hs k ≤ k
  | 0 => Nat.le_refl _
  | k + 1 => by
    have := atO_le o hs k
    unfold atO
    split
    · split <;> omega
    · omega
theorem atO_yes {o : Int} {hs : List flH.Hd} {k : Nat} {h : flH.Hd} (hk : hs[k]? = some h) (hh : h.o ≤ o) : atO o hs (k + 1) = k + 1 := by unfold atO; rw [hk]; simp [hh]
theorem atO_no {o : Int} {hs : List flH.Hd} {k : Nat} {h : flH.Hd} (hk : hs[k]? = some h) (hh : ¬ h.o ≤ o) : atO o hs (k + 1) = atO o hs k := by rw [atO, hk]; simp [hh]
/-- at a place p: ahead of it none is greater, from it on all are -/
theorem atO_of {o : Int} {hs : List flH.Hd} {p : Nat} (h1 : ∀ (i : Nat) a, i < p → hs[i]? = some a → a.o ≤ o) (h2 : ∀ (i : Nat) a, p ≤ i → hs[i]? = some a → ¬ a.o ≤ o) : ∀ k, k ≤ hs.length → atO o hs k = if k ≤ p then k else p
  | 0, _ => by simp [atO]
  | k + 1, hk => by
    have ih := atO_of h1 h2 k (by omega)
    have hg : hs[k]? = some hs[k] := List.getElem?_eq_getElem (by omega)
    by_cases hkp : k < p
    · rw [atO_yes hg (h1 k _ hkp hg), if_pos (by omega)]
    · rw [atO_no hg (h2 k _ (by omega) hg), ih]
      split <;> split <;> omega
theorem cmpH_lt {a b : flH.Hd} : cmpH a b < 0 ↔ a.o < b.o ∨ (a.o = b.o ∧ a.t < b.t) := by
  unfold cmpH
  by_cases h : a.o = b.o
  · rw [if_neg (by rw [cmpI_zero.2 h]; simp), cmpI_neg]
    omega
  · rw [if_pos (fun e => h (cmpI_zero.1 e)), cmpI_neg]
    omega
/-- owners ascend -/
theorem own_up {nm : ByteArray} {nx : Int} {es : List flM.Ms} {hs : List flH.Hd} (hok : qk.OkQ nm nx es hs) : ∀ (d i : Nat) (a b : flH.Hd), hs[i]? = some a → hs[i + d + 1]? = some b → cmpH a b < 0
  | 0, i, a, b, ha, hb => by
    have := hok.hu i a b ha hb
    rw [cmpH_lt]
    unfold qk.hLt at this
    omega
  | d + 1, i, a, b, ha, hb => by
    have hlt := (List.getElem?_eq_some_iff.1 hb).1
    have hm : hs[i + d + 1]? = some hs[i + d + 1] := List.getElem?_eq_getElem (by omega)
    have h1 := own_up hok d i a _ ha hm
    have h2 := hok.hu (i + d + 1) _ b hm (by rw [show i + d + 1 + 1 = i + (d + 1) + 1 by omega]; exact hb)
    rw [cmpH_lt] at h1 ⊢
    unfold qk.hLt at h2
    omega
theorem mon_ok {nm : ByteArray} {nx : Int} {es : List flM.Ms} {hs : List flH.Hd} (hok : qk.OkQ nm nx es hs) (t : flH.Hd) : MonH hs t := fun i j a b hij ha hb h => by
  rcases Nat.lt_or_ge i j with hlt | hge
  · have := own_up hok (j - i - 1) i a b ha (by rw [show i + (j - i - 1) + 1 = j by omega]; exact hb)
    rw [cmpH_lt] at this h ⊢
    omega
  · obtain rfl : i = j := by omega
    rw [ha] at hb
    cases hb
    exact h
/-- what the search says of it -/
theorem late_iff {nm : ByteArray} {nx : Int} {es : List flM.Ms} {hs : List flH.Hd} (hok : qk.OkQ nm nx es hs) {o t : Int} {m : flM.Ms} {p : Nat} (hp : PosH hs ⟨t, o, m⟩ p) : hs.any (late o t) = true ↔ ∃ a, hs[p]? = some a ∧ a.o = o := by
  rw [List.any_eq_true]
  constructor
  · rintro ⟨h, hm, hl⟩
    simp only [late, Bool.and_eq_true, decide_eq_true_eq] at hl
    obtain ⟨i, hi⟩ := List.mem_iff_getElem?.1 hm
    have hpi : p ≤ i := by
      rcases Nat.lt_or_ge i p with h1 | h1
      · have := cmpH_lt.1 (hp.lt i h h1 hi)
        have h2 : h.o < o ∨ (h.o = o ∧ h.t < t) := this
        omega
      · exact h1
    have hlt := (List.getElem?_eq_some_iff.1 hi).1
    have hg : hs[p]? = some hs[p] := List.getElem?_eq_getElem (by omega)
    refine ⟨_, hg, ?_⟩
    have hge := hp.ge p _ (Nat.le_refl _) hg
    have hn : ¬ (hs[p].o < o ∨ (hs[p].o = o ∧ hs[p].t < t)) := fun e => by have := cmpH_lt (b := ⟨t, o, m⟩).2 e; omega
    rcases Nat.lt_or_ge p i with h1 | h1
    · have h3 := cmpH_lt.1 (own_up hok (i - p - 1) p _ h hg (by rw [show p + (i - p - 1) + 1 = i by omega]; exact hi))
      omega
    · obtain rfl : p = i := by omega
      rw [hi] at hg
      have := Option.some.inj hg
      rw [← this]
      exact hl.1
  · rintro ⟨a, ha, hao⟩
    refine ⟨a, List.mem_of_getElem? ha, ?_⟩
    have hge := hp.ge p a (Nat.le_refl _) ha
    have hn : ¬ (a.o < o ∨ (a.o = o ∧ a.t < t)) := fun e => by have := cmpH_lt (b := ⟨t, o, m⟩).2 e; omega
    simp only [late, Bool.and_eq_true, decide_eq_true_eq]
    omega
theorem atO_pos {nm : ByteArray} {nx : Int} {es : List flM.Ms} {hs : List flH.Hd} (hok : qk.OkQ nm nx es hs) {o t : Int} {m : flM.Ms} {p : Nat} (hp : PosH hs ⟨t, o, m⟩ p) (hl : hs.any (late o t) = false) : atO o hs hs.length = p := by
  have h := atO_of (o := o) (hs := hs) (p := p) (fun i a hi ha => by
    have h2 : a.o < o ∨ (a.o = o ∧ a.t < t) := cmpH_lt.1 (hp.lt i a hi ha)
    omega) (fun i a hi ha => by
    have hge := hp.ge i a hi ha
    have hn : ¬ (a.o < o ∨ (a.o = o ∧ a.t < t)) := fun e => by have := cmpH_lt (b := ⟨t, o, m⟩).2 e; omega
    have hx : late o t a = false := by
      cases hh : late o t a with
      | false => rfl
      | true => have : hs.any (late o t) = true := List.any_eq_true.2 ⟨a, List.mem_of_getElem? ha, hh⟩; rw [hl] at this; cases this
    have hx2 : ¬ (a.o = o ∧ t ≤ a.t) := fun e => by simp [late, e.1, e.2] at hx
    omega) hs.length (Nat.le_refl _)
  rw [h]
  have := hp.le
  split <;> omega
noncomputable def good (nm : ByteArray) (nx : Int) (rs : List flM.Ms) (hs : List flH.Hd) (o t : Int) : Bool := okB nm nx rs hs && hand o t && !rs.isEmpty && !hs.any (late o t)
def headM (rs : List flM.Ms) : flM.Ms := match rs with
  | [] => ⟨0, ⟨#[]⟩, ⟨#[]⟩, ⟨#[]⟩, false⟩
  | m :: _ => m
noncomputable def ansR (nm : ByteArray) (nx : Int) (rs : List flM.Ms) (hs : List flH.Hd) (o t : Int) : List flM.Ms := if good nm nx rs hs o t = true then rs.tail else rs
noncomputable def ansH (nm : ByteArray) (nx : Int) (rs : List flM.Ms) (hs : List flH.Hd) (o t : Int) : List flH.Hd := if good nm nx rs hs o t = true then hs.take (atO o hs hs.length) ++ ⟨t, o, headM rs⟩ :: hs.drop (atO o hs hs.length) else hs
noncomputable def ansM (nm : ByteArray) (nx : Int) (rs : List flM.Ms) (hs : List flH.Hd) (o t : Int) : flM.Ms := if good nm nx rs hs o t = true then headM rs else headM []
end Go.Proofs.Ytnlcmheahihlpaa.qpp

/- Whether an owner and a tag may be those of a message that is handed out: the program's handOk, the specification's l01In. -/
namespace Go.Proofs.Ytnlcmheahihlpaa.qhd
open Go.ChangeShapes Go.WideShapes Go.ChangeAt Go.RowKit Go.Proofs.Ytnlcmheahihlpaa.qpp
set_option linter.unusedVariables false

set_option maxRecDepth 100000 in
theorem impl_hand (o t : Int) (w : World) : Calls Try.prog 36 #[.int .i64 o, .int .i64 t] w fun e w' => e = .returned (.bool (hand o t)) ∧ w' = w := by
  by_cases h1 : 0 ≤ o
  · by_cases h2 : o ≤ 1000
    · by_cases h3 : 1 ≤ t
      · by_cases h4 : t ≤ 1000000000
        · have hh : hand o t = true := by simp [hand, h1, h2, h3, h4]
          rw [hh]
          go_enter Try.func36, Try.ntmps36
          go_wp2
          go_ret
          exact ⟨rfl, rfl⟩
        · have hh : hand o t = false := by simp [hand, h1, h2, h3, h4]
          rw [hh]
          go_enter Try.func36, Try.ntmps36
          go_wp2
          go_ret
          exact ⟨rfl, rfl⟩
      · have hh : hand o t = false := by simp [hand, h1, h2, h3]
        rw [hh]
        go_enter Try.func36, Try.ntmps36
        go_wp2
        go_ret
        exact ⟨rfl, rfl⟩
    · have hh : hand o t = false := by simp [hand, h1, h2]
      rw [hh]
      go_enter Try.func36, Try.ntmps36
      go_wp2
      go_ret
      exact ⟨rfl, rfl⟩
  · have hh : hand o t = false := by simp [hand, h1]
    rw [hh]
    go_enter Try.func36, Try.ntmps36
    go_wp2
    go_ret
    exact ⟨rfl, rfl⟩
theorem within (x a b : Int) (w : World) : Calls Try.prog 40 #[.int .i64 x, .int .i64 a, .int .i64 b] w fun e w' => e = .returned (.bool (decide (a ≤ x ∧ x ≤ b))) ∧ w = w' := by
  by_cases h1 : a ≤ x
  · by_cases h2 : x ≤ b
    · have e : decide (a ≤ x ∧ x ≤ b) = true := by simp [h1, h2]
      rw [e]
      go_enter Try.func40, Try.ntmps40
      go_wp2
      go_ret
      simp
    · have e : decide (a ≤ x ∧ x ≤ b) = false := by simp [h1, h2]
      rw [e]
      go_enter Try.func40, Try.ntmps40
      go_wp2
      go_ret
      simp
  · have e : decide (a ≤ x ∧ x ≤ b) = false := by simp [h1]
    rw [e]
    go_enter Try.func40, Try.ntmps40
    go_wp2
    go_ret
    exact ⟨rfl, rfl⟩
end Go.Proofs.Ytnlcmheahihlpaa.qhd
