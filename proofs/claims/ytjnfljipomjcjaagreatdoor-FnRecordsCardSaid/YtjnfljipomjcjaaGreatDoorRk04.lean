/- The specification's GetBatch. -/
import Derived.Test.YtjnfljipomjcjaaGreatDoorRk03
import Derived.Laws.Append
import Derived.Test.YtjnfljipomjcjaaGreatDoorDoneKit
import Derived.Laws.CopyRow
import Derived.Maps.AppendAt

/- append(s, make(S, n)...) where it must grow: a new row with s's cells, then zero values. -/
namespace Go.Proofs.YtjnfljipomjcjaaGreatDoor.az
open Go.RowKit
set_option linter.unusedVariables false

end Go.Proofs.YtjnfljipomjcjaaGreatDoor.az

/- copy at rows of structures, and the ways that copy and append(s, make(S, n)...) go in a walk. -/
namespace Go.Proofs.YtjnfljipomjcjaaGreatDoor.cpr
open Go.RowKit
set_option linter.unusedVariables false

theorem wpList_append_run {P : Program} {w w' : World} {ops : Array Oper} {rest : List Oper} {o : Oper} {a : Act} {Q : Exit → Act → World → Prop} (hgd : o.guard = none) (d s : Operand) (t t' : TypeId)
    (ho : o.op = .call { callee := .builtin .append, args := #[d, s], argTypes := #[t, t'] }) (dv sv v : Value) (hd : a.eval d = dv) (hs : a.eval s = sv) (hrun : (Builtin.append_ #[t, t'] o.type #[dv, sv]).run P w = .ok v w')
    (h : wpList P ops Q rest (a.put o.dst v) w') : wpList P ops Q (o :: rest) a w := by
  refine wpList_plain hgd fun K hK => ?_
  unfold Oper.wp
  simp [execOp, ho, resolve, invoke, builtin, hd, hs, hrun, Result.andThen]
  exact hK _ _ h
end Go.Proofs.YtjnfljipomjcjaaGreatDoor.cpr

/- The specification's GetBatch. -/
namespace Go.Proofs.YtjnfljipomjcjaaGreatDoor.gbs
open Go.ChangeShapes Go.WideShapes Go.ChangeAt Go.RowKit Go.Proofs.YtjnfljipomjcjaaGreatDoor.fl Go.Proofs.YtjnfljipomjcjaaGreatDoor.gbp
set_option linter.unusedVariables false

theorem got_bad1 {s : ByteArray} (h : (gi.okAt s 0 1 && decide (gi.num s 0 1 ≤ 60)) = false) : got s = none := by
  unfold got
  rw [h]
  rfl
theorem got_bad2 {s : ByteArray} (h : rn s (gi.num s 0 1).toNat 1 = none) : got s = none := by
  unfold got
  rw [h]
  split <;> rfl
theorem got_bad3 {s : ByteArray} {l : List flP.Pr} {e : Int} (h : rn s (gi.num s 0 1).toNat 1 = some (l, e)) (h2 : (decide (e = s.size) && bo.okb l) = false) : got s = none := by
  unfold got
  rw [h]
  simp only [h2]
  split <;> rfl
theorem got_good {s : ByteArray} {l : List flP.Pr} {e : Int} (h0 : (gi.okAt s 0 1 && decide (gi.num s 0 1 ≤ 60)) = true) (h : rn s (gi.num s 0 1).toNat 1 = some (l, e)) (h2 : (decide (e = s.size) && bo.okb l) = true) : got s = some l := by
  unfold got
  rw [if_pos h0, h]
  simp only [h2, if_true]
theorem stp_bad {s : ByteArray} {i : Int} (h : (gi.okAt s i 1 && (gs.here s (i + 1) && decide (gi.num s i 1 ≤ 1))) = false) : stp s i = none := by
  unfold stp
  rw [h]
  rfl
theorem stp_gone {s : ByteArray} {i : Int} (h : (gi.okAt s i 1 && (gs.here s (i + 1) && decide (gi.num s i 1 ≤ 1))) = true) (h1 : gi.num s i 1 = 1) : stp s i = some (⟨gs.text s (i + 1), ⟨#[]⟩, true⟩, gs.behind s (i + 1)) := by
  unfold stp
  rw [if_pos h, if_pos h1]
theorem stp_val {s : ByteArray} {i : Int} (h : (gi.okAt s i 1 && (gs.here s (i + 1) && decide (gi.num s i 1 ≤ 1))) = true) (h1 : gi.num s i 1 ≠ 1) (h2 : gl.here s (gs.behind s (i + 1)) = true) : stp s i = some (⟨gs.text s (i + 1), gl.text s (gs.behind s (i + 1)), false⟩, gl.behind s (gs.behind s (i + 1))) := by
  unfold stp
  rw [if_pos h, if_neg h1, if_pos h2]
theorem stp_noval {s : ByteArray} {i : Int} (h : (gi.okAt s i 1 && (gs.here s (i + 1) && decide (gi.num s i 1 ≤ 1))) = true) (h1 : gi.num s i 1 ≠ 1) (h2 : gl.here s (gs.behind s (i + 1)) = false) : stp s i = none := by
  unfold stp
  rw [if_pos h, if_neg h1, h2]
  rfl
theorem cpadd {g j : Nat} : (⟨g, 0, none⟩ : Addr).add j = ⟨g, j, none⟩ := by unfold Addr.add; split <;> simp_all
theorem own_on {w w' : World} {B n m : Nat} {T : TypeId} {v : Value} {xs : List Value} (h : w.ownsRow B T m v n xs) (hb : Below w.heap.size w w') : w'.ownsRow B T m v n xs :=
  h.kept (row := none) ⟨hb.os, hb.tape, hb.output, hb.size, fun k hk _ => hb.block k hk⟩ (by cases v.ownBlock <;> simp)
theorem infoP : ∃ i0, Tryz.prog.info? 61 = some i0 ∧ i0.zero = some (.agg #[.string ByteArray.empty, .string ByteArray.empty, .bool false]) ∧ i0.size = 3 ∧ i0.bytes = 40 := by
  have h : (Tryz.prog.info? 61).map (fun i => (i.zero, i.size, i.bytes)) = some (some (.agg #[.string ByteArray.empty, .string ByteArray.empty, .bool false]), 3, 40) := by kernel_rfl
  cases hh : Tryz.prog.info? 61 with
  | none => rw [hh] at h; cases h
  | some i => rw [hh] at h; simp at h; exact ⟨i, rfl, h.1, h.2.1, h.2.2⟩
/-- what stands when k pairs are read -/
structure St (s : ByteArray) (w : World) (n k : Nat) (i : Int) (l : List flP.Pr) (v : Value) (W : World) : Prop where
  bel : Below w.heap.size w W
  row : W.ownsRow w.heap.size 61 3 v l.length (l.flatMap flP.c)
  len : l.length = k
  left : gbp.Left s n l (n - k) i
  lo : 0 ≤ i
  hi : i ≤ s.size
  fit : ∀ e ∈ l, e.k.size ≤ 1048576 ∧ e.v.size ≤ 1048576

set_option maxRecDepth 100000 in
set_option maxHeartbeats 1000000 in
theorem spec_got (s : ByteArray) (w : World) (hs : s.size ≤ 1048576) :
    Calls Tryz.prog 12 #[.string s] w fun e w' => ∃ v, e = .returned (.tuple #[v, .bool (gotB s)]) ∧ w'.ownsRow w.heap.size 61 3 v (gotL s).length ((gotL s).flatMap flP.c) ∧ Below w.heap.size w w' := by
  obtain ⟨i0, hi, hz0, hz1, hz2⟩ := infoP
  have hg0 := gi.spec_get s 0 1 w hs (by omega) (by omega)
  go_enter Tryz.func12, Tryz.ntmps12
  go_wp2_with (go_at_call 26; fail)
  refine hg0.mono ?_
  rintro e w0 ⟨rfl, hw0⟩
  obtain rfl := hw0.symm
  clear hg0
  cases h0 : (gi.okAt s 0 1 && decide (gi.num s 0 1 ≤ 60)) with
  | false =>
    have HG : Hid (gotL s = [] ∧ gotB s = false) := got_none (got_bad1 h0)
    have hcase : gi.stop s 0 1 < 0 ∨ (¬ gi.stop s 0 1 < 0 ∧ 60 < gi.num s 0 1) := by
      cases ha : gi.okAt s 0 1 with
      | false => exact .inl (by rw [(stop_no ha).1]; omega)
      | true =>
        refine .inr ⟨by rw [stop_at ha]; omega, ?_⟩
        rw [ha] at h0
        simp at h0
        exact h0
    obtain ⟨n0, hn0⟩ : ∃ n0, gi.num s 0 1 = n0 := ⟨_, rfl⟩
    obtain ⟨a0, ha0⟩ : ∃ a0, gi.stop s 0 1 = a0 := ⟨_, rfl⟩
    rw [hn0, ha0] at hcase ⊢
    have HO : Hid ((w.alloc (.cells #[] 61)).ownsRow w.heap.size 61 3 (.slice (some ⟨w.heap.size, 0, none⟩) 0 0) 0 []) := World.ownsRow_made w #[] 0 (Nat.le_refl _) (by unfold maxLen; omega) (by simp)
    have HB : Hid (Below w.heap.size w (w.alloc (.cells #[] 61))) := (Below.refl _ _).alloc (Nat.le_refl _) _
    clear h0 hn0 ha0
    rcases hcase with hc | ⟨hc, hc2⟩
    all_goals
      go_wp2
      go_ret2
      rw [HG.out.1, HG.out.2]
      exact ⟨_, rfl, HO.out, HB.out⟩
  | true =>
    have H0 : Hid ((gi.okAt s 0 1 && decide (gi.num s 0 1 ≤ 60)) = true) := h0
    simp only [Bool.and_eq_true, decide_eq_true_eq] at h0
    obtain ⟨ha, hn60⟩ := h0
    have hin := at_in ha
    rw [stop_at ha]
    obtain ⟨n, hn⟩ : ∃ n : Nat, gi.num s 0 1 = (n : Int) := ⟨(gi.num s 0 1).toNat, by omega⟩
    have HN : Hid ((gi.num s 0 1).toNat = n) := by unfold Hid; rw [hn]; rfl
    rw [hn] at hn60 ⊢
    have hn60' : n ≤ 60 := by omega
    have d0 : ¬ ((60 : Int) < (n : Int)) := by omega
    have hS0 : St s w n 0 (0 + 1) [] (.slice (some ⟨w.heap.size, 0, none⟩) 0 0) (w.alloc (.cells #[] 61)) := ⟨(Below.refl _ _).alloc (Nat.le_refl _) _, World.ownsRow_made w #[] 0 (Nat.le_refl _) (by unfold maxLen; omega) (by simp), rfl, left_0 s n, by omega, by omega, fun e he => by cases he⟩
    have HS0 : Hid (St s w n 0 (0 + 1) [] (.slice (some ⟨w.heap.size, 0, none⟩) 0 0) (w.alloc (.cells #[] 61))) := hS0
    clear hS0 ha hin hn hn60
    go_wp2
    obtain ⟨W0, hW0⟩ : ∃ W0, w.alloc (.cells #[] 61) = W0 := ⟨_, rfl⟩
    rw [hW0] at HS0 ⊢
    clear hW0
    go_loopw [5, 6, 7] (fun y v x wr => ∃ (k : Nat) (i : Int) (l : List flP.Pr), k ≤ n ∧ y = .int .i64 i ∧ x = .int .i64 k ∧ Hid (St s w n k i l v wr)) (fun _ _ x _ => n - (intOf x).toNat)
    case atStart => exact ⟨0, 0 + 1, [], Nat.zero_le _, rfl, rfl, HS0⟩
    case round =>
      obtain ⟨k, i, l, hk, rfl, rfl, hst⟩ := hrel
      clear HS0
      have hlo := hst.out.lo
      have hhi := hst.out.hi
      by_cases hkn : k < n
      · have i2 : (k : Int) < (n : Int) := by omega
        have hgi := gi.spec_get s i 1 wr hs (by omega) (by omega)
        have hsz : -9223372036854775808 ≤ gi.stop s i 1 ∧ gi.stop s i 1 ≤ 9223372036854775807 := by
          cases ha : gi.okAt s i 1 with
          | false => rw [(stop_no ha).1]; omega
          | true => rw [stop_at ha]; omega
        have hgs := gs.spec_getShort s (gi.stop s i 1) wr hs hsz.1 hsz.2
        go_wp2_with (go_at_call 26; fail)
        refine hgi.mono ?_
        rintro e w1 ⟨rfl, hw1⟩
        obtain rfl := hw1.symm
        clear hgi hsz
        go_wp2_with (go_at_call 41; fail)
        refine hgs.mono ?_
        rintro e w2 ⟨rfl, hb2⟩
        clear hgs
        have hbel2 : Below w.heap.size w w2 := hst.out.bel.trans (hb2.mono hst.out.bel.size)
        cases hc : (gi.okAt s i 1 && (gs.here s (i + 1) && decide (gi.num s i 1 ≤ 1))) with
        | false =>
          have HG : Hid (gotL s = [] ∧ gotB s = false) := got_none (got_bad2 (by rw [HN.out]; exact left_no (by have := hst.out.left; rw [show n - k = (n - k - 1) + 1 by omega] at this; exact this) (stp_bad hc)))
          have HO : Hid ((w2.alloc (.cells #[] 61)).ownsRow w.heap.size 61 3 (.slice (some ⟨w2.heap.size, 0, none⟩) 0 0) 0 []) := World.ownsRow_made w2 #[] 0 (hbel2).size (by unfold maxLen; omega) (by simp)
          have HB : Hid (Below w.heap.size w (w2.alloc (.cells #[] 61))) := (hbel2).alloc (hbel2).size _
          have hcase : gi.stop s i 1 < 0 ∨ (¬ gi.stop s i 1 < 0 ∧ gs.behind s (gi.stop s i 1) < 0) ∨ (¬ gi.stop s i 1 < 0 ∧ ¬ gs.behind s (gi.stop s i 1) < 0 ∧ 1 < gi.num s i 1) := by
            cases ha : gi.okAt s i 1 with
            | false => exact .inl (by rw [(stop_no ha).1]; omega)
            | true =>
              rw [stop_at ha]
              rw [ha, Bool.true_and] at hc
              cases hh : gs.here s (i + 1) with
              | false => exact .inr (.inl ⟨by omega, by rw [short_no hh]; omega⟩)
              | true =>
                rw [hh, Bool.true_and] at hc
                have := short_in hh
                simp at hc
                exact .inr (.inr ⟨by omega, by omega, hc⟩)
          obtain ⟨g0, hg0⟩ : ∃ g0, gi.num s i 1 = g0 := ⟨_, rfl⟩
          obtain ⟨p0, hp0⟩ : ∃ p0, gi.stop s i 1 = p0 := ⟨_, rfl⟩
          rw [hg0, hp0] at hcase ⊢
          obtain ⟨e0, he0⟩ : ∃ e0, gs.behind s p0 = e0 := ⟨_, rfl⟩
          obtain ⟨t0, ht0⟩ : ∃ t0, gs.text s p0 = t0 := ⟨_, rfl⟩
          rw [he0] at hcase
          rw [he0, ht0]
          clear hc hg0 hp0 he0 ht0 hst hb2 hbel2
          rcases hcase with hc | ⟨hc, hc2⟩ | ⟨hc, hc2, hc3⟩
          all_goals
            go_wp2
            go_ret2
            rw [HG.out.1, HG.out.2]
            exact ⟨_, rfl, HO.out, HB.out⟩
        | true =>
          have HC : Hid ((gi.okAt s i 1 && (gs.here s (i + 1) && decide (gi.num s i 1 ≤ 1))) = true) := hc
          simp only [Bool.and_eq_true, decide_eq_true_eq] at hc
          obtain ⟨ha, hh, hg1⟩ := hc
          have hai := at_in ha
          have hsi := short_in hh
          rw [stop_at ha]
          obtain ⟨e0, he0⟩ : ∃ e0, gs.behind s (i + 1) = e0 := ⟨_, rfl⟩
          rw [he0] at hsi
          have hgl := gl.spec_getLong s e0 (w2.alloc (.cells #[.string (gs.text s (i + 1)), .string ⟨#[]⟩, .bool false] 61)) hs (by omega) (by omega)
          have HE0 : Hid (gs.behind s (i + 1) = e0) := he0
          by_cases hg : gi.num s i 1 = 1
          · rw [hg, he0]
            clear hgl
            have hll : l.length ≤ 60 := by have := hst.out.len; omega
            have hxb : Below w.heap.size w ((w2.alloc (.cells #[.string (gs.text s (i + 1)), .string ⟨#[]⟩, .bool true] 61)).alloc (.cells #[.string (gs.text s (i + 1)), .string ⟨#[]⟩, .bool true] 61)) := (hbel2.alloc hbel2.size (.cells #[.string (gs.text s (i + 1)), .string ⟨#[]⟩, .bool true] 61)).alloc (hbel2.alloc hbel2.size (.cells #[.string (gs.text s (i + 1)), .string ⟨#[]⟩, .bool true] 61)).size _
            obtain ⟨v', Y, hr, ho, hgr, _, _⟩ := run_append_own_at (P := Tryz.prog) ((w2.alloc (.cells #[.string (gs.text s (i + 1)), .string ⟨#[]⟩, .bool true] 61)).alloc (.cells #[.string (gs.text s (i + 1)), .string ⟨#[]⟩, .bool true] 61)) w.heap.size 24 24 61 i0 (.agg #[.string ByteArray.empty, .string ByteArray.empty, .bool false]) 3 40 Tryz.underlying24 hi hz0 hz1 hz2 rfl (by decide) u6 l.length (l.flatMap flP.c) (((own_on hst.out.row hb2).alloc _).alloc _) ⟨(w2.alloc (.cells #[.string (gs.text s (i + 1)), .string ⟨#[]⟩, .bool true] 61)).heap.size, 0, none⟩ 1 1 [.string (gs.text s (i + 1)), .string ⟨#[]⟩, .bool true] rfl (fun j u hu => by rw [cpadd]; exact bcell (bnew (w2.alloc (.cells #[.string (gs.text s (i + 1)), .string ⟨#[]⟩, .bool true] 61)) _ _) (by simpa using hu)) (by intro u hu; simp at hu; rcases hu with rfl | rfl | rfl <;> rfl) (by unfold maxLen; omega) (by omega) (by have := hxb.size; omega)
            have HN1 : Hid (St s w n (k + 1) e0 (l ++ [⟨gs.text s (i + 1), ⟨#[]⟩, true⟩]) v' Y) := by
              refine ⟨hxb.grown hgr hxb.size (fun b hb => (hst.out.row.lt b hb).1), ?_, by rw [List.length_append, hst.out.len]; rfl, ?_, hsi.1, hsi.2, fun e he => ?_⟩
              · rw [List.length_append, List.flatMap_append]
                simpa [flP.c] using ho
              · have h1 := left_yes (by have := hst.out.left; rw [show n - k = (n - k - 1) + 1 by omega] at this; exact this) (by rw [stp_gone HC.out hg, HE0.out])
                rw [show n - (k + 1) = n - k - 1 by omega]
                exact h1
              · rcases List.mem_append.1 he with he | he
                · exact hst.out.fit e he
                · simp at he
                  subst he
                  exact ⟨(text_small hs).1, by show (0 : Nat) ≤ _; omega⟩
            have he1 : ¬ e0 < 0 := by omega
            rw [World.size_alloc] at hr
            clear ho hgr hxb hst hbel2 hb2 he0 hg hg1 ha hh hai hll HE0 HC
            go_wp2_with (at_builtin; refine cpr.wpList_append_run rfl _ _ _ _ rfl _ _ _ rfl rfl hr ?_)
            go_roundw
            case rel => exact ⟨k + 1, e0, _, by omega, rfl, by go_num, HN1⟩
            case measure => simp [intOf]; omega
          · have hg0 : gi.num s i 1 = 0 := by omega
            rw [hg0, he0]
            have hll : l.length ≤ 60 := by have := hst.out.len; omega
            have hal2 : Below w2.heap.size w2 (w2.alloc (.cells #[.string (gs.text s (i + 1)), .string ⟨#[]⟩, .bool false] 61)) := (Below.refl _ _).alloc (Nat.le_refl _) _
            have hP := bnew w2 #[.string (gs.text s (i + 1)), .string ⟨#[]⟩, .bool false] 61
            have hPl : w2.heap.size < (w2.alloc (.cells #[.string (gs.text s (i + 1)), .string ⟨#[]⟩, .bool false] 61)).heap.size := by simp
            go_wp2_with (go_at_call 27; fail)
            refine hgl.mono ?_
            rintro e w3 ⟨rfl, hb3⟩
            have b3 := bstay hP hb3 hPl
            have c0 : w3.cell? ⟨w2.heap.size, 0, none⟩ = some (.string (gs.text s (i + 1))) := bcell b3 rfl
            have c1 : w3.cell? ⟨w2.heap.size, 1, none⟩ = some (.string ⟨#[]⟩) := bcell b3 rfl
            have c2 : w3.cell? ⟨w2.heap.size, 2, none⟩ = some (.bool false) := bcell b3 rfl
            have f1 := bfree b3 1
            have b4 := bset b3 1 (.string (gl.text s e0))
            have hb23 : Below w2.heap.size w2 (w3.setCell ⟨w2.heap.size, 1, none⟩ (.string (gl.text s e0))) := (hal2.trans (hb3.mono hal2.size)).setCell (Nat.le_refl _) _
            have hbel3 : Below w.heap.size w (w3.setCell ⟨w2.heap.size, 1, none⟩ (.string (gl.text s e0))) := hbel2.trans (hb23.mono hbel2.size)
            have hrow3 := own_on (own_on hst.out.row hb2) hb23
            have hw3 : (w3.setCell ⟨w2.heap.size, 1, none⟩ (.string (gl.text s e0))).heap.size = w3.heap.size := by simp
            clear hgl hP hPl hal2 hb3 b3
            cases hlh : gl.here s e0 with
            | false =>
              have HG : Hid (gotL s = [] ∧ gotB s = false) := got_none (got_bad2 (by rw [HN.out]; exact left_no (by have := hst.out.left; rw [show n - k = (n - k - 1) + 1 by omega] at this; exact this) (stp_noval HC.out hg (by rw [HE0.out]; exact hlh))))
              have HO : Hid (((w3.setCell ⟨w2.heap.size, 1, none⟩ (.string (gl.text s e0))).alloc (.cells #[] 61)).ownsRow w.heap.size 61 3 (.slice (some ⟨(w3.setCell ⟨w2.heap.size, 1, none⟩ (.string (gl.text s e0))).heap.size, 0, none⟩) 0 0) 0 []) := World.ownsRow_made (w3.setCell ⟨w2.heap.size, 1, none⟩ (.string (gl.text s e0))) #[] 0 hbel3.size (by unfold maxLen; omega) (by simp)
              have HB : Hid (Below w.heap.size w ((w3.setCell ⟨w2.heap.size, 1, none⟩ (.string (gl.text s e0))).alloc (.cells #[] 61))) := hbel3.alloc hbel3.size _
              rw [long_no hlh]
              rw [hw3] at HO
              clear hst hb2 hbel2 hb23 hbel3 hrow3 hw3 hg hg0 hg1 ha hh hai hlh he0 HE0 HC b4 hll
              go_wp2
              go_ret2
              rw [HG.out.1, HG.out.2]
              exact ⟨_, rfl, HO.out, HB.out⟩
            | true =>
              have hli := long_in hlh
              have hxb : Below w.heap.size w ((w3.setCell ⟨w2.heap.size, 1, none⟩ (.string (gl.text s e0))).alloc (.cells #[.string (gs.text s (i + 1)), .string (gl.text s e0), .bool false] 61)) := hbel3.alloc hbel3.size _
              obtain ⟨v', Y, hr, ho, hgr, _, _⟩ := run_append_own_at (P := Tryz.prog) ((w3.setCell ⟨w2.heap.size, 1, none⟩ (.string (gl.text s e0))).alloc (.cells #[.string (gs.text s (i + 1)), .string (gl.text s e0), .bool false] 61)) w.heap.size 24 24 61 i0 (.agg #[.string ByteArray.empty, .string ByteArray.empty, .bool false]) 3 40 Tryz.underlying24 hi hz0 hz1 hz2 rfl (by decide) u6 l.length (l.flatMap flP.c) (hrow3.alloc _) ⟨(w3.setCell ⟨w2.heap.size, 1, none⟩ (.string (gl.text s e0))).heap.size, 0, none⟩ 1 1 [.string (gs.text s (i + 1)), .string (gl.text s e0), .bool false] rfl (fun j u hu => by rw [cpadd]; exact bcell (bnew (w3.setCell ⟨w2.heap.size, 1, none⟩ (.string (gl.text s e0))) _ _) (by simpa using hu)) (by intro u hu; simp at hu; rcases hu with rfl | rfl | rfl <;> rfl) (by unfold maxLen; omega) (by omega) (by have := hxb.size; omega)
              have HN1 : Hid (St s w n (k + 1) (gl.behind s e0) (l ++ [⟨gs.text s (i + 1), gl.text s e0, false⟩]) v' Y) := by
                refine ⟨hxb.grown hgr hxb.size (fun b hb => (hst.out.row.lt b hb).1), ?_, by rw [List.length_append, hst.out.len]; rfl, ?_, hli.1, hli.2, fun e he => ?_⟩
                · rw [List.length_append, List.flatMap_append]
                  simpa [flP.c] using ho
                · have h1 := left_yes (by have := hst.out.left; rw [show n - k = (n - k - 1) + 1 by omega] at this; exact this) (by rw [stp_val HC.out hg (by rw [HE0.out]; exact hlh), HE0.out])
                  rw [show n - (k + 1) = n - k - 1 by omega]
                  exact h1
                · rcases List.mem_append.1 he with he | he
                  · exact hst.out.fit e he
                  · simp at he
                    subst he
                    exact ⟨(text_small hs).1, (text_small hs).2⟩
              have he1 : ¬ gl.behind s e0 < 0 := by omega
              obtain ⟨j0, hj0⟩ : ∃ j0, gl.behind s e0 = j0 := ⟨_, rfl⟩
              rw [hj0] at he1 HN1 ⊢
              have y0 : (w3.setCell ⟨w2.heap.size, 1, none⟩ (.string (gl.text s e0))).cell? ⟨w2.heap.size, 0, none⟩ = some (.string (gs.text s (i + 1))) := bcell b4 rfl
              have y1 : (w3.setCell ⟨w2.heap.size, 1, none⟩ (.string (gl.text s e0))).cell? ⟨w2.heap.size, 1, none⟩ = some (.string (gl.text s e0)) := bcell b4 rfl
              have y2 : (w3.setCell ⟨w2.heap.size, 1, none⟩ (.string (gl.text s e0))).cell? ⟨w2.heap.size, 2, none⟩ = some (.bool false) := bcell b4 rfl
              rw [hw3] at hr
              clear ho hgr hxb hst hbel2 hb2 hb23 hbel3 hrow3 hw3 he0 hg hg0 hg1 ha hh hai hll HE0 HC hlh hli hj0 b4
              go_wp2_with (at_builtin; refine cpr.wpList_append_run rfl _ _ _ _ rfl _ _ _ rfl rfl hr ?_)
              go_roundw
              case rel => exact ⟨k + 1, j0, _, by omega, rfl, by go_num, HN1⟩
              case measure => simp [intOf]; omega
      · obtain rfl : k = n := by omega
        have hrn := left_end (by have := hst.out.left; rw [Nat.sub_self] at this; exact this)
        obtain ⟨va, vc, hv⟩ : ∃ va vc, u6 = .slice va l.length vc := by
          obtain ⟨_, ⟨e, h0⟩ | ⟨g, cap, cur, e, _⟩⟩ := hst.out.row
          · exact ⟨none, 0, by rw [e, h0]⟩
          · exact ⟨_, _, e⟩
        have HST : Hid (St s w k k i l (.slice va l.length vc) wr) := by rw [← hv]; exact hst
        obtain rfl := hv
        have hll : l.length ≤ 60 := by have := hst.out.len; omega
        have hrow : Row flP.c 3 wr wr.heap.size va l := by
          obtain ⟨a', cap', e, hr⟩ := own_row flP.c_len hst.out.row
          cases e
          exact hr
        have hbo := bo.spec_okb l va vc wr ⟨by omega, hst.out.fit⟩ hrow
        obtain ⟨ok, hok⟩ : ∃ ok, bo.okb l = ok := ⟨_, rfl⟩
        rw [hok] at hbo
        by_cases he : i = (s.size : Int)
        · have d1 : (i != (s.size : Int)) = false := by simp [he]
          have HV : Hid (gotL s = (if ok then l else []) ∧ gotB s = ok) := by
            cases ok with
            | true => exact got_some (l := l) (got_good H0.out (by rw [HN.out]; exact hrn) (by rw [hok]; simp [he]))
            | false => exact got_none (got_bad3 (by rw [HN.out]; exact hrn) (by rw [hok]; simp))
          clear he hok hrn hst hrow
          go_wp2_with (go_at_call 17; fail)
          refine hbo.mono ?_
          rintro e w5 ⟨rfl, hb5⟩
          have HR5 : Hid (w5.ownsRow w.heap.size 61 3 (.slice va l.length vc) l.length (l.flatMap flP.c)) := own_on HST.out.row hb5
          have HB5 : Hid (Below w.heap.size w w5) := HST.out.bel.trans (hb5.mono HST.out.bel.size)
          clear hbo hb5 HST
          cases ok with
          | true =>
            go_wp2
            go_ret2
            rw [HV.out.1, HV.out.2]
            exact ⟨_, rfl, HR5.out, HB5.out⟩
          | false =>
            have HO : Hid ((w5.alloc (.cells #[] 61)).ownsRow w.heap.size 61 3 (.slice (some ⟨w5.heap.size, 0, none⟩) 0 0) 0 []) := World.ownsRow_made w5 #[] 0 HB5.out.size (by unfold maxLen; omega) (by simp)
            have HB : Hid (Below w.heap.size w (w5.alloc (.cells #[] 61))) := HB5.out.alloc HB5.out.size _
            go_wp2
            go_ret2
            rw [HV.out.1, HV.out.2]
            exact ⟨_, rfl, HO.out, HB.out⟩
        · have d1 : (i != (s.size : Int)) = true := by simp [he]
          have HV : Hid (gotL s = [] ∧ gotB s = false) := got_none (got_bad3 (by rw [HN.out]; exact hrn) (by simp [he]))
          have HO : Hid ((wr.alloc (.cells #[] 61)).ownsRow w.heap.size 61 3 (.slice (some ⟨wr.heap.size, 0, none⟩) 0 0) 0 []) := World.ownsRow_made wr #[] 0 HST.out.bel.size (by unfold maxLen; omega) (by simp)
          have HB : Hid (Below w.heap.size w (wr.alloc (.cells #[] 61))) := HST.out.bel.alloc HST.out.bel.size _
          clear he hok hrn hst hrow hbo
          go_wp2
          go_ret2
          rw [HV.out.1, HV.out.2]
          exact ⟨_, rfl, HO.out, HB.out⟩
end Go.Proofs.YtjnfljipomjcjaaGreatDoor.gbs
