/- The program's PutBatch answers the bytes of a batch; new memory alone. -/
import Derived.Test.YtjnfljipomjcjaaGreatDoorPutBatchPure
import Derived.Test.YtjnfljipomjcjaaGreatDoorBuildText
namespace Go.Proofs.YtjnfljipomjcjaaGreatDoor.pbi
open Go.ChangeShapes Go.WideShapes Go.ChangeAt Go.RowKit Go.Proofs.YtjnfljipomjcjaaGreatDoor.fl Go.Proofs.YtjnfljipomjcjaaGreatDoor.bo Go.Proofs.YtjnfljipomjcjaaGreatDoor.pb
set_option linter.unusedVariables false

set_option maxRecDepth 100000 in
theorem put_pair (e : flP.Pr) (w : World) (hok : okP e) : Calls Tryz.prog 31 #[.agg #[.string e.k, .string e.v, .bool e.g]] w fun r w' => r = .returned (.string (one e)) ∧ Below w.heap.size w w' := by
  obtain ⟨pk, pv, pg⟩ := e
  obtain ⟨hk1, hk2, hv1, _⟩ := hok
  have hk2 : pk.size ≤ 100 := hk2
  have hv1 : pv.size ≤ 4000 := hv1
  have hp1 := short_size (k := pk) (by omega)
  have hp2 := long_size (v := pv) (by omega)
  have hal : Below w.heap.size w (w.alloc (.cells #[.string pk, .string pv, .bool pg] 61)) := (Below.refl _ _).alloc (Nat.le_refl _) _
  have hA := bnew w #[.string pk, .string pv, .bool pg] 61
  obtain ⟨X, hX⟩ : ∃ X, w.alloc (.cells #[.string pk, .string pv, .bool pg] 61) = X := ⟨_, rfl⟩
  rw [hX] at hal hA
  have hlt := (Array.getElem?_eq_some_iff.1 hA).1
  have HA : Hid (X.heap[w.heap.size]? = some (.cells #[.string pk, .string pv, .bool pg] 61 (0, 0))) := hA
  have x2 : X.cell? ⟨w.heap.size, 2, none⟩ = some (.bool pg) := bcell hA rfl
  clear hA
  have x0 := fun N : qi.Cls X => (Below.cell N.h (p := ⟨w.heap.size, 0, none⟩) hlt).trans (bcell HA.out (show _ = some (.string pk) from rfl))
  have x1 := fun N : qi.Cls X => (Below.cell N.h (p := ⟨w.heap.size, 1, none⟩) hlt).trans (bcell HA.out (show _ = some (.string pv) from rfl))
  have cS : ∀ N : qi.Cls X, Calls Tryz.prog 64 #[.string pk] N.x fun e w' => e = .returned (.string (ps.out pk)) ∧ qi.T X w' := fun N => (ps.impl_putShort pk N.x (by omega)).mono fun _ _ h => ⟨h.1, N.h.next h.2⟩
  have cL : ∀ N : qi.Cls X, Calls Tryz.prog 33 #[.string pv] N.x fun e w' => e = .returned (.string (pl.out pv)) ∧ qi.T X w' := fun N => (pl.impl_putLong pv N.x (by omega)).mono fun _ _ h => ⟨h.1, N.h.next h.2⟩
  cases pg with
  | true =>
    have hon : one ⟨pk, pv, true⟩ = ⟨#[1]⟩ ++ ps.out pk := rfl
    rw [hon]
    have cI : ∀ N : qi.Cls X, Calls Tryz.prog 30 #[.int .i64 1, .int .i64 1] N.x fun e w' => e = .returned (.string ⟨#[1]⟩) ∧ qi.T X w' := fun N => (pi.impl_put 1 1 N.x (by omega)).mono fun _ _ h => ⟨by rw [h.1, text1], N.h.next h.2⟩
    clear hon cL x1
    go_enter Tryz.func31, Tryz.ntmps31
    go_wp2_with (go_at_call 30; fail)
    clear hX HA x2
    refine qi.region_in X (qi.T.refl X) (by kernel_rfl) (by kernel_rfl) ?_
    repeat (go_big_quiet_step (first | (go_at_call 30; refine (cI _).mono ?_; rintro e wx ⟨rfl, hTx⟩; exact ⟨rfl, ⟨wx, hTx⟩, rfl⟩) | (go_at_call 64; refine (cS _).mono ?_; rintro e wx ⟨rfl, hTx⟩; exact ⟨rfl, ⟨wx, hTx⟩, rfl⟩)))
    refine wpQuiet_nil ?_
    rintro _ ⟨N, rfl⟩
    have hN := N.h
    generalize N.x = wN at hN ⊢
    clear N cI cS x0
    have hbN : Below w.heap.size w wN := hal.trans (Below.mono hN hal.size)
    go_wp2
    go_ret
    exact ⟨rfl, hbN⟩
  | false =>
    have hon : one ⟨pk, pv, false⟩ = ⟨#[0]⟩ ++ ps.out pk ++ pl.out pv := rfl
    rw [hon]
    have cI : ∀ N : qi.Cls X, Calls Tryz.prog 30 #[.int .i64 0, .int .i64 1] N.x fun e w' => e = .returned (.string ⟨#[0]⟩) ∧ qi.T X w' := fun N => (pi.impl_put 0 1 N.x (by omega)).mono fun _ _ h => ⟨by rw [h.1, text0], N.h.next h.2⟩
    clear hon
    go_enter Tryz.func31, Tryz.ntmps31
    go_wp2_with (go_at_call 30; fail)
    clear hX HA x2
    refine qi.region_in X (qi.T.refl X) (by kernel_rfl) (by kernel_rfl) ?_
    repeat (go_big_quiet_step (first | (go_at_call 30; refine (cI _).mono ?_; rintro e wx ⟨rfl, hTx⟩; exact ⟨rfl, ⟨wx, hTx⟩, rfl⟩) | (go_at_call 64; refine (cS _).mono ?_; rintro e wx ⟨rfl, hTx⟩; exact ⟨rfl, ⟨wx, hTx⟩, rfl⟩) | (go_at_call 33; refine (cL _).mono ?_; rintro e wx ⟨rfl, hTx⟩; exact ⟨rfl, ⟨wx, hTx⟩, rfl⟩)))
    refine wpQuiet_nil ?_
    rintro _ ⟨N, rfl⟩
    have hN := N.h
    generalize N.x = wN at hN ⊢
    clear N cI cS cL x0 x1
    have hbN : Below w.heap.size w wN := hal.trans (Below.mono hN hal.size)
    go_wp2
    go_ret
    exact ⟨rfl, hbN⟩

theorem builder_below {T e : TypeId} {B b : Nat} {v : Value} {l : List Value} {w w' : World} (h : Lib.BuilderAt T e B b v l w) (hb : Below w.heap.size w w') : Lib.BuilderAt T e B b v l w' := by
  obtain ⟨h0, u, h1, h2, h3⟩ := h
  refine ⟨h0, u, (hb.block b (Array.getElem?_eq_some_iff.1 h1).1).trans h1, h2.kept (row := none) ⟨hb.os, hb.tape, hb.output, hb.size, fun i hi _ => hb.block i hi⟩ ?_, h3⟩
  cases hv : u.ownBlock with
  | none => exact .inl rfl
  | some g => right; simp

theorem impl_no (l : List flP.Pr) (a : Option Addr) (cap : Nat) (w : World) (F : bs.Fit l) (hok : okb l = false) (hS : Row flP.c 3 w w.heap.size a l) :
    Calls Tryz.prog 8 #[.slice a l.length cap] w fun e w' => e = .returned (.string (out l)) ∧ Below w.heap.size w w' := by
  have h1 := impl_okb l a cap w F hS
  rw [hok] at h1
  have HO : Hid (out l = ⟨#[]⟩) := by unfold Hid out; rw [hok]; rfl
  clear hok hS
  go_enter Tryz.func8, Tryz.ntmps8
  go_wp2_with (go_at_call 16; refine h1.mono ?_; rintro e w1 ⟨rfl, hb1⟩)
  go_ret
  exact ⟨by rw [HO.out]; rfl, hb1⟩

set_option maxRecDepth 100000 in
set_option maxHeartbeats 1000000 in
theorem impl_yes (l : List flP.Pr) (a : Option Addr) (cap : Nat) (w : World) (F : bs.Fit l) (hok : okb l = true) (hS : Row flP.c 3 w w.heap.size a l) :
    Calls Tryz.prog 8 #[.slice a l.length cap] w fun e w' => e = .returned (.string (out l)) ∧ Below w.heap.size w w' := by
  have h1 := impl_okb l a cap w F hS
  rw [hok] at h1
  have HO : Hid (out l = pi.text l.length 1 ++ all l) := by unfold Hid out; rw [hok]; rfl
  have hlen := ((okb_iff l).1 hok).1
  have HK : Hid (∀ (i : Nat) e, l[i]? = some e → okP e) := ((okb_iff l).1 hok).2
  have HS : Hid (Row flP.c 3 w w.heap.size a l) := hS
  have hts := pi.text_size l.length 1
  clear hok hS F
  go_enter Tryz.func8, Tryz.ntmps8
  go_wp2_with (go_at_call 16; fail)
  refine h1.mono ?_
  rintro e w1 ⟨rfl, hb1⟩
  clear h1
  have hal : Below w1.heap.size w1 (w1.alloc (.cells #[.pointer none, .slice none 0 0] 54)) := (Below.refl _ _).alloc (Nat.le_refl _) _
  have hA := bnew w1 #[.pointer none, .slice none 0 0] 54
  have hput := pi.impl_put (l.length : Int) 1 (w1.alloc (.cells #[.pointer none, .slice none 0 0] 54)) (by omega)
  go_wp2_with (go_at_call 30; fail)
  refine hput.mono ?_
  rintro e w2 ⟨rfl, hb2⟩
  clear hput
  have hlt1 : w1.heap.size < (w1.alloc (.cells #[.pointer none, .slice none 0 0] 54)).heap.size := by simp
  have hB := bstay hA hb2 hlt1
  have hB2 : Below w.heap.size w w2 := hb1.trans ((hal.trans (hb2.mono hal.size)).mono hb1.size)
  have hw0 := jb.write0 w1.heap.size w1.heap.size (pi.text l.length 1) w2 hB (Nat.le_refl _) (by omega) (by have := hb2.size; omega)
  clear hA hal hb2 hlt1
  go_wp2_with fail
  refine hw0.mono ?_
  rintro e w3 ⟨rfl, hB3, hb3⟩
  clear hw0 hB
  have hbs1 := hb1.size
  have hBel3 : Below w.heap.size w w3 := hB2.trans (hb3.mono hbs1)
  have hs3 : w1.heap.size ≤ w3.heap.size := by have := (Array.getElem?_eq_some_iff.1 hB3.2.choose_spec.1).1; omega
  have HB3 : Hid (Lib.BuilderAt 54 5 w1.heap.size w1.heap.size (.pointer (some ⟨w1.heap.size, 0, none⟩)) (Lib.strCells (pi.text l.length 1 ++ all (l.take 0))) w3) := by
    unfold Hid
    rw [List.take_zero, all, app_nil]
    exact hB3
  clear hB3 hb3 hB2
  obtain ⟨B, hBe⟩ : ∃ B, w1.heap.size = B := ⟨_, rfl⟩
  rw [hBe] at HB3 hbs1 hs3 ⊢
  clear hb1 hBe
  go_wp2
  go_loopw [5, 15] (fun _ x wr => ∃ k : Nat, k ≤ l.length ∧ x = .int .i64 k ∧ Hid (Lib.BuilderAt 54 5 B B (.pointer (some ⟨B, 0, none⟩)) (Lib.strCells (pi.text l.length 1 ++ all (l.take k))) wr) ∧ Below w.heap.size w wr) (fun _ x _ => l.length - (intOf x).toNat)
  case atStart => exact ⟨0, Nat.zero_le _, rfl, HB3, hBel3⟩
  case round =>
    obtain ⟨k, hk, rfl, hB, hbel⟩ := hrel
    have hbs := hbel.size
    have hsB : B < wr.heap.size := (Array.getElem?_eq_some_iff.1 hB.out.2.choose_spec.1).1
    by_cases hkl : k < l.length
    · rcases HS.out with h0 | ⟨b, off, rfl, hlt, hc⟩
      · rw [h0] at hkl; simp at hkl
      have HG : Hid (l[k]? = some l[k]) := List.getElem?_eq_getElem hkl
      obtain ⟨⟨pk, pv, pg⟩, he⟩ : ∃ e, l[k] = e := ⟨_, rfl⟩
      rw [he] at HG
      have hokp := HK.out k _ HG.out
      have c0 : wr.cell? ⟨b, off + k * 3, none⟩ = some (.string pk) := (hbel.cell (p := ⟨b, off + k * 3, none⟩) hlt).trans (hc k _ HG.out 0 _ rfl)
      have c1 : wr.cell? ⟨b, off + k * 3 + 1, none⟩ = some (.string pv) := (hbel.cell (p := ⟨b, off + k * 3 + 1, none⟩) hlt).trans (hc k _ HG.out 1 _ rfl)
      have c2 : wr.cell? ⟨b, off + k * 3 + 2, none⟩ = some (.bool pg) := (hbel.cell (p := ⟨b, off + k * 3 + 2, none⟩) hlt).trans (hc k _ HG.out 2 _ rfl)
      have HN : Hid (pi.text l.length 1 ++ all (l.take (k + 1)) = (pi.text l.length 1 ++ all (l.take k)) ++ one ⟨pk, pv, pg⟩) := by
        unfold Hid
        rw [all_next HG.out, ByteArray.append_assoc]
      have hsz := all_take HK.out k hk
      have hone := one_size hokp
      have hrs : (pi.text l.length 1 ++ all (l.take k)).size ≤ 8 + 4200 * k := by rw [ByteArray.size_append]; omega
      obtain ⟨so, hso⟩ : ∃ so, pi.text l.length 1 ++ all (l.take k) = so := ⟨_, rfl⟩
      rw [hso] at hB hrs HN
      have hpp := put_pair ⟨pk, pv, pg⟩ (wr.alloc (.cells #[.string pk, .string pv, .bool pg] 61)) hokp
      obtain ⟨on, hon⟩ : ∃ on, one ⟨pk, pv, pg⟩ = on := ⟨_, rfl⟩
      rw [hon] at hone HN hpp
      have hal : Below wr.heap.size wr (wr.alloc (.cells #[.string pk, .string pv, .bool pg] 61)) := (Below.refl _ _).alloc (Nat.le_refl _) _
      have i2 : (k : Int) < (l.length : Int) := by omega
      clear hc he hso hsz hon hokp
      go_wp2_with (go_at_call 31; fail)
      refine hpp.mono ?_
      rintro e w4 ⟨rfl, hb4⟩
      have hb4' : Below wr.heap.size wr w4 := hal.trans (hb4.mono hal.size)
      have hB4 := builder_below hB.out hb4'
      have hw := jb.writeS B B _ on w4 hB4 (by rw [Lib.strCells_length]; omega) (by have := hb4'.size; omega)
      clear hpp hB c0 c1 c2 hal hb4
      go_wp2_with fail
      refine hw.mono ?_
      rintro e w5 ⟨rfl, hB5, hb5⟩
      have HB5 : Hid (Lib.BuilderAt 54 5 B B (.pointer (some ⟨B, 0, none⟩)) (Lib.strCells (pi.text l.length 1 ++ all (l.take (k + 1)))) w5) := by
        unfold Hid
        rw [HN.out, ← jb.cells_app]
        exact hB5
      have hB6 : Below w.heap.size w w5 := (hbel.trans (hb4'.mono hbs)).trans (hb5.mono hbs1)
      clear hw hB4 hB5
      go_wp2
      go_roundw
      case rel => exact ⟨k + 1, by omega, by go_num, HB5, hB6⟩
      case measure => simp [intOf]; omega
    · obtain rfl : k = l.length := by omega
      have HF : Hid (pi.text l.length 1 ++ all (l.take l.length) = out l) := by unfold Hid; rw [List.take_length, HO.out]
      have hB' := hB.out
      rw [HF.out, jb.cells_byte] at hB'
      have hst := shBuilderLaid.Builder_String_any B B (out l).data.toList wr (.inr hB') (by omega)
      clear hB hB'
      go_wp2_with (go_at_call 32; refine hst.mono ?_; rintro e w2 ⟨rfl, hb2⟩)
      go_ret
      exact ⟨rfl, hbel.trans (hb2.mono (by omega))⟩

theorem impl_put (l : List flP.Pr) (a : Option Addr) (cap : Nat) (w : World) (F : bs.Fit l) (hS : Row flP.c 3 w w.heap.size a l) :
    Calls Tryz.prog 8 #[.slice a l.length cap] w fun e w' => e = .returned (.string (out l)) ∧ Below w.heap.size w w' := by
  cases h : okb l with
  | false => exact impl_no l a cap w F h hS
  | true => exact impl_yes l a cap w F h hS
end Go.Proofs.YtjnfljipomjcjaaGreatDoor.pbi
