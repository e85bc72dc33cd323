/- The draw of one case out of n. -/
import Derived.Test.YtoemkbooomgieaaGreatDoorDw24
import Derived.Test.YtoemkbooomgieaaGreatDoorRows
import Derived.WalkKit
import Derived.WalkLawsBesides
import Derived.WalkSpells
import Derived.ProofKit
import Derived.OpenShut
import Derived.ShutString
import Derived.Below
import Derived.Laws.BitsAllLaws
import Derived.Laws.BytesArg
import Derived.OwnWalk

/- FnStored: the records of a log that was cut short: those that are whole. -/
namespace Go.Proofs.YtoemkbooomgieaaGreatDoor.sdc
open Go.Proofs.YtoemkbooomgieaaGreatDoor.fl Go.Proofs.YtoemkbooomgieaaGreatDoor.rcp Go.Proofs.YtoemkbooomgieaaGreatDoor.rpp Go.Proofs.YtoemkbooomgieaaGreatDoor.rro
set_option linter.unusedVariables false

theorem greatest (P : Nat → Prop) (h0 : P 0) : ∀ m : Nat, ∃ k, k ≤ m ∧ P k ∧ ∀ j, j ≤ m → P j → j ≤ k
  | 0 => ⟨0, Nat.le_refl _, h0, fun j hj _ => hj⟩
  | m + 1 => by
    by_cases h : P (m + 1)
    · exact ⟨m + 1, Nat.le_refl _, h, fun j hj _ => hj⟩
    · obtain ⟨k, h1, h2, h3⟩ := greatest P h0 m
      exact ⟨k, by omega, h2, fun j hj hp => h3 j (by
        rcases Nat.lt_or_ge j (m + 1) with h4 | h4
        · omega
        · have : j = m + 1 := by omega
          subst this
          exact absurd hp h) hp⟩
theorem cat_app : ∀ (a b : List (List flP.Pr)), cat (a ++ b) = cat a ++ cat b
  | [], b => (nil_app _).symm
  | x :: a, b => by
    show rcd.out x ++ cat (a ++ b) = rcd.out x ++ cat a ++ cat b
    rw [cat_app a b, assoc]
theorem ext_ext {s : ByteArray} {n a b : Nat} (hb : b ≤ n) : (s.extract 0 n).extract a b = s.extract a b := by
  apply ByteArray.ext
  apply Array.toList_inj.1
  simp only [Lib.extract_data, List.drop_zero, Nat.sub_zero]
  rw [List.drop_take, List.take_take]
  congr 1
  omega
theorem left_part (a b : ByteArray) : (a ++ b).extract 0 a.size = a := by
  apply ByteArray.ext
  apply Array.toList_inj.1
  rw [Lib.extract_data]
  simp only [ByteArray.data_append, Array.toList_append, List.drop_zero, Nat.sub_zero]
  rw [List.take_append_of_le_length (by simp), List.take_of_length_le (by simp)]
theorem cut_recs {lg : ByteArray} (hw : (recs lg).2 = lg.size) {n : Nat} (hn : n ≤ lg.size) : ∃ k, k ≤ (recs lg).1.length ∧ recs (lg.extract 0 n) = ((recs lg).1.take k, ((cat ((recs lg).1.take k)).size : Int)) ∧ (cat ((recs lg).1.take k)).size ≤ n ∧ lg.extract 0 (cat ((recs lg).1.take k)).size = cat ((recs lg).1.take k) ∧ ∀ j, j ≤ (recs lg).1.length → (cat ((recs lg).1.take j)).size ≤ n → j ≤ k := by
  obtain ⟨h1, h2, h3⟩ := sdq.recs_whole hw
  obtain ⟨L, hL⟩ : ∃ L, (recs lg).1 = L := ⟨_, rfl⟩
  rw [hL] at h1 h2 ⊢
  obtain ⟨k, hk, hP, hmax⟩ := greatest (fun j => (cat (L.take j)).size ≤ n) (by show (cat (L.take 0)).size ≤ n; rw [List.take_zero]; exact Nat.zero_le _) L.length
  have hsplit : lg = cat (L.take k) ++ cat (L.drop k) := by rw [← cat_app, List.take_append_drop, h2]
  obtain ⟨P, hPe⟩ : ∃ P, cat (L.take k) = P := ⟨_, rfl⟩
  have hPl : lg.extract 0 P.size = P := by rw [hsplit, hPe]; exact left_part _ _
  have hPn : P.size ≤ n := by rw [← hPe]; exact hP
  refine ⟨k, hk, ?_, hP, by rw [hPe]; exact hPl, hmax⟩
  have hs : (lg.extract 0 n).size = n := by rw [ByteArray.size_extract]; omega
  have hq : lg.extract 0 n = P ++ (lg.extract 0 n).extract P.size n := by
    have e := np.extract_join (lg.extract 0 n) 0 P.size n (by omega) (by omega)
    rw [ext_ext hPn, hPl] at e
    rw [e]
    have := whole (lg.extract 0 n)
    rw [hs] at this
    exact this.symm
  obtain ⟨q, hqe⟩ : ∃ q, (lg.extract 0 n).extract P.size n = q := ⟨_, rfl⟩
  rw [hqe] at hq
  rw [hPe, hq]
  have hfin := recs_cat (l := L.take k) (q := q) (fun b hb => h1 b (List.mem_of_mem_take hb)) (by rw [hPe, ← hq, hs]; omega) ?_
  · rw [hPe] at hfin
    exact hfin
  rw [hPe, ← hq]
  cases hR : isR (lg.extract 0 n) (P.size : Nat) with
  | false => rfl
  | true =>
    exfalso
    obtain ⟨r0, r1, r2, r3, r4⟩ := isR_back hR
    have hin := isR_in hR
    obtain ⟨m, hm⟩ : ∃ m : Nat, nxt (lg.extract 0 n) (P.size : Nat) = m := ⟨(nxt (lg.extract 0 n) (P.size : Nat)).toNat, by omega⟩
    rw [hm] at r1 r2 r3 hin
    rw [hs] at r2 hin
    have hmn : m ≤ n := by omega
    rw [Int.toNat_natCast, Int.toNat_natCast, ext_ext hmn] at r3
    have hlg : lg = P ++ rcd.out (bat (lg.extract 0 n) (P.size : Nat)) ++ lg.extract m lg.size := by
      rw [r3]
      have e1 := np.extract_join lg 0 P.size m (by omega) (by omega)
      have e2 := np.extract_join lg 0 m lg.size (by omega) (by omega)
      rw [hPl] at e1
      rw [e1, e2, whole]
    have hrd := (rok_read (b := bat (lg.extract 0 n) (P.size : Nat)) r4 P (lg.extract m lg.size)).2.2
    rw [← hlg, r3, ByteArray.size_extract] at hrd
    by_cases hkl : k < L.length
    · obtain ⟨b, hb⟩ : ∃ b, L[k]? = some b := ⟨L[k], List.getElem?_eq_getElem hkl⟩
      have hd : L.drop k = b :: L.drop (k + 1) := by
        rw [List.drop_eq_getElem_cons hkl]
        rw [List.getElem?_eq_getElem hkl] at hb
        rw [Option.some.inj hb]
      have hlg2 : lg = P ++ rcd.out b ++ cat (L.drop (k + 1)) := by
        rw [hsplit, hd, hPe]
        show P ++ (rcd.out b ++ cat (L.drop (k + 1))) = _
        rw [assoc]
      have hrd2 := (rok_read (b := b) (h1 b (List.mem_of_getElem? hb)) P (cat (L.drop (k + 1)))).2.2
      rw [← hlg2] at hrd2
      have htk : cat (L.take (k + 1)) = P ++ rcd.out b := by rw [List.take_add_one, hb, Option.toList_some, cat_snoc, hPe]
      have := hmax (k + 1) (by omega) (by show (cat (L.take (k + 1))).size ≤ n; rw [htk, ByteArray.size_append]; omega)
      omega
    · have hke : k = L.length := by omega
      have : lg = P := by rw [hsplit, hke, List.drop_length, hPe.symm, hke]; exact app_nil _
      have hz : lg.size = P.size := by rw [← this]
      omega
end Go.Proofs.YtoemkbooomgieaaGreatDoor.sdc

/- FnStored: a store behind a crash: it is right, and holds what the first so many batches made. -/
namespace Go.Proofs.YtoemkbooomgieaaGreatDoor.sde
open Go.ChangeShapes Go.WideShapes Go.ChangeAt Go.RowKit Go.Proofs.YtoemkbooomgieaaGreatDoor.fl Go.Proofs.YtoemkbooomgieaaGreatDoor.fo Go.Proofs.YtoemkbooomgieaaGreatDoor.rn Go.Proofs.YtoemkbooomgieaaGreatDoor.rcp Go.Proofs.YtoemkbooomgieaaGreatDoor.rpp Go.Proofs.YtoemkbooomgieaaGreatDoor.rro Go.Proofs.YtoemkbooomgieaaGreatDoor.rcI Go.Proofs.YtoemkbooomgieaaGreatDoor.sok Go.Proofs.YtoemkbooomgieaaGreatDoor.sdl Go.Proofs.YtoemkbooomgieaaGreatDoor.sdc
set_option linter.unusedVariables false

section
variable {W : World} {ya ra : Option Addr} {yl yc rl rc : Nat} {lg : ByteArray} {sf kp : Int}
theorem p_crash (hlg : lg.size ≤ 1048576) (hT : TB W) : Calls Tryz.prog 13 #[.agg #[.slice ya yl yc, .slice ra rl rc, .string lg, .int .i64 sf], .int .i64 kp] W fun e w' =>
    ∃ sa sc, e = .returned (.agg #[.slice sa (rep (sco.logL lg sf kp)).length sc, .slice none 0 0, .string (sco.logL lg sf kp), .int .i64 (sco.endL lg sf kp)]) ∧ Pt w' (rep (sco.logL lg sf kp)) [] sa sc none 0 ∧ Below W.heap.size W w' := by
  refine (sco.impl_crash ya ra yl yc rl rc lg sf kp W hlg hT).mono ?_
  rintro e w' ⟨sa, sc, rfl, h1, h2, hb⟩
  exact ⟨sa, sc, rfl, nil_pt h2.rows.1 h1, hb⟩
/-- what is left -/
theorem crash_left (hw : (recs lg).2 = lg.size) (h0 : 0 ≤ sf) (h1 : sf ≤ lg.size) : ∃ k, k ≤ (recs lg).1.length ∧ sco.logL lg sf kp = cat ((recs lg).1.take k) ∧ sco.endL lg sf kp = ((sco.logL lg sf kp).size : Int) ∧ recs (sco.logL lg sf kp) = ((recs lg).1.take k, ((sco.logL lg sf kp).size : Int)) ∧ ∀ j, j ≤ (recs lg).1.length → ((cat ((recs lg).1.take j)).size : Int) ≤ sf → j ≤ k := by
  have hin := sco.lft_in sf kp lg.size
  have hsf : sf ≤ sco.lft sf kp lg.size := by unfold sco.lft; omega
  obtain ⟨n, hn⟩ : ∃ n : Nat, sco.lft sf kp lg.size = n := ⟨(sco.lft sf kp lg.size).toNat, by omega⟩
  rw [hn] at hin hsf
  obtain ⟨k, k1, k2, k3, k4, k5⟩ := cut_recs hw (n := n) (by omega)
  have he : sco.endL lg sf kp = ((cat ((recs lg).1.take k)).size : Int) := by
    unfold sco.endL
    rw [hn, Int.toNat_natCast, k2]
  have hl : sco.logL lg sf kp = cat ((recs lg).1.take k) := by
    unfold sco.logL
    rw [he, Int.toNat_natCast, k4]
  refine ⟨k, k1, hl, by rw [he, hl], ?_, fun j hj hs => k5 j hj (by omega)⟩
  rw [hl]
  obtain ⟨q1, q2, q3⟩ := sdq.recs_whole hw
  obtain ⟨k', j1, j2, j3, j4, j5⟩ := cut_recs hw (n := (cat ((recs lg).1.take k)).size) (by omega)
  have hkk : cat ((recs lg).1.take k') = cat ((recs lg).1.take k) := by
    have h9 := j5 k k1 (Nat.le_refl _)
    have h8 := k5 k' j1 (Nat.le_trans j3 k3)
    have : k' = k := by omega
    rw [this]
  have hk' : k' = k := by
    have h9 := j5 k k1 (Nat.le_refl _)
    have h8 := k5 k' j1 (Nat.le_trans j3 k3)
    omega
  rw [k4, hk'] at j2
  exact j2
end
end Go.Proofs.YtoemkbooomgieaaGreatDoor.sde

/- FnStored: what holds of a store and of the lists that were laid by, round for round, and what follows of it behind a crash. -/
namespace Go.Proofs.YtoemkbooomgieaaGreatDoor.sdi
open Go.Proofs.YtoemkbooomgieaaGreatDoor.fl Go.Proofs.YtoemkbooomgieaaGreatDoor.rcp Go.Proofs.YtoemkbooomgieaaGreatDoor.rpp Go.Proofs.YtoemkbooomgieaaGreatDoor.rro Go.Proofs.YtoemkbooomgieaaGreatDoor.sok Go.Proofs.YtoemkbooomgieaaGreatDoor.sdq Go.Proofs.YtoemkbooomgieaaGreatDoor.sdc
set_option linter.unusedVariables false

/-- the store is right; the lists are those that its first so many records make; all that is safe is among what is kept -/
structure Iv (lg : ByteArray) (sf : Int) (ys : List flP.Pr) (R : List (List flP.Pr)) (S : List (List flP.Pr)) (safe : Nat) : Prop where
  ok : okS ys R lg sf = true
  len : S.length = (recs lg).1.length + 1
  st : ∀ j, j ≤ (recs lg).1.length → S[j]? = some (rep (cat ((recs lg).1.take j)))
  fit : ∀ l ∈ S, l.length ≤ 300
  sl : safe ≤ (recs lg).1.length
  sf : ((cat ((recs lg).1.take safe)).size : Int) ≤ sf
section
variable {lg : ByteArray} {sf : Int} {ys : List flP.Pr} {R : List (List flP.Pr)} {S : List (List flP.Pr)} {safe : Nat}
theorem recs_0 : recs ⟨#[]⟩ = ([], 0) := by
  have h := recs_cat (l := []) (q := ⟨#[]⟩) (fun b hb => by cases hb) (by decide) (by
    cases hR : isR (cat [] ++ ⟨#[]⟩) ((cat []).size : Nat) with
    | false => rfl
    | true =>
      exfalso
      have := isR_in hR
      have e : (cat [] ++ (⟨#[]⟩ : ByteArray)).size = 0 := by decide
      omega)
  have e : cat [] ++ (⟨#[]⟩ : ByteArray) = ⟨#[]⟩ := app_nil _
  rw [e] at h
  exact h
theorem rep_0 : rep ⟨#[]⟩ = [] := by unfold rep; rw [recs_0]; rfl
theorem iv_0 : Iv ⟨#[]⟩ 0 [] [] [[]] 0 := by
  have h1 := made_ok (lg := ⟨#[]⟩) (by rw [rep_0]; exact Nat.zero_le _) (by rw [recs_0]; rfl)
  rw [rep_0] at h1
  refine ⟨h1, by rw [recs_0]; rfl, fun j hj => ?_, fun l hl => ?_, Nat.zero_le _, ?_⟩
  · rw [recs_0] at hj ⊢
    have : j = 0 := by simpa using hj
    subst this
    show some [] = some (rep (cat []))
    rw [show cat [] = (⟨#[]⟩ : ByteArray) from rfl, rep_0]
  · rw [List.mem_singleton.1 hl]; exact Nat.zero_le _
  · rw [recs_0]; exact Int.le_refl 0
theorem Iv.top (h : Iv lg sf ys R S safe) : S[(recs lg).1.length]? = some (all0 ys R) := by
  obtain ⟨h1, h2, h3, h4, h5⟩ := okS_parts h.ok
  rw [h.st _ (Nat.le_refl _), List.take_length, (recs_whole h3).2.1, h5]
theorem Iv.sync (h : Iv lg sf ys R S safe) : Iv lg lg.size ys R S (S.length - 1) := by
  obtain ⟨h1, h2, h3, h4, h5⟩ := okS_parts h.ok
  have hl := h.len
  have e : S.length - 1 = (recs lg).1.length := by omega
  exact ⟨sync_ok h.ok, h.len, h.st, h.fit, by omega, by rw [e, List.take_length, (recs_whole h3).2.1]; exact Int.le_refl _⟩
theorem Iv.step (h : Iv lg sf ys R S safe) (kd x : Int) : Iv lg sf (sst.ansY ys R lg sf kd x) (sst.ansR ys R lg sf kd x) S safe := ⟨(step_ok h.ok).1, h.len, h.st, h.fit, h.sl, h.sf⟩
theorem Iv.do {l Y : List flP.Pr} {Q : List (List flP.Pr)} (h : Iv lg sf ys R S safe) (hc : apd.can lg l = true) (ho : okS Y Q (apd.ans lg l) sf = true) : Iv (apd.ans lg l) sf Y Q (S ++ [all0 Y Q]) safe := by
  obtain ⟨h1, h2, h3, h4, h5⟩ := okS_parts h.ok
  obtain ⟨g1, g2, g3, g4, g5⟩ := okS_parts ho
  have hr := do_recs h3 hc
  have hl := h.len
  refine ⟨ho, by rw [hr, List.length_append, List.length_append, hl]; rfl, fun j hj => ?_, fun m hm => ?_, by rw [hr, List.length_append]; have := h.sl; omega, by rw [hr, List.take_append_of_le_length h.sl]; exact h.sf⟩
  · rw [hr, List.length_append, List.length_singleton] at hj
    rw [hr]
    by_cases hjl : j ≤ (recs lg).1.length
    · rw [List.getElem?_append_left (by omega), List.take_append_of_le_length hjl]
      exact h.st j hjl
    · obtain rfl : j = S.length := by omega
      rw [List.getElem?_append_right (Nat.le_refl _), List.take_of_length_le (by rw [List.length_append, List.length_singleton]; omega)]
      have e := (recs_whole g3).2.1
      rw [hr] at e
      rw [e, ← g5]
      simp
  · rcases List.mem_append.1 hm with hm | hm
    · exact h.fit m hm
    · rw [List.mem_singleton.1 hm]; exact g4
/-- behind a crash -/
theorem Iv.crash (h : Iv lg sf ys R S safe) (kp : Int) : ∃ k, safe ≤ k ∧ k < S.length ∧ (recs (sco.logL lg sf kp)).1.length = k ∧ S[k]? = some (rep (sco.logL lg sf kp)) ∧ sco.endL lg sf kp = ((sco.logL lg sf kp).size : Int) ∧ okS (rep (sco.logL lg sf kp)) [] (sco.logL lg sf kp) (sco.logL lg sf kp).size = true ∧ all0 (rep (sco.logL lg sf kp)) [] = rep (sco.logL lg sf kp) := by
  obtain ⟨h1, h2, h3, h4, h5⟩ := okS_parts h.ok
  obtain ⟨k, k1, k2, k3, k4, k5⟩ := sde.crash_left (kp := kp) h3 h2.1 h2.2
  have hl := h.len
  have hs : S[k]? = some (rep (sco.logL lg sf kp)) := by rw [h.st k k1, k2]
  have hf := h.fit _ (List.mem_of_getElem? hs)
  exact ⟨k, k5 safe h.sl h.sf, by omega, by rw [k4, List.length_take]; omega, hs, k3, made_ok hf (by rw [k4]), rep_all hf⟩
end
end Go.Proofs.YtoemkbooomgieaaGreatDoor.sdi

/- The specification's draws: a cursor in a block of the call's own; each draw answers some value of its bounds, turns nothing below the cursor's block, and leaves the cursor right. -/
namespace Go.Proofs.YtoemkbooomgieaaGreatDoor.dw
open Go.ChangeShapes Go.WideShapes Go.ChangeAt Go.RowKit

/-- the bytes of the code, in memory below block B -/
def Code (w : World) (B : Nat) (a : Option Addr) (len : Nat) : Prop :=
  len = 0 ∨ ∃ b off, a = some ⟨b, off, none⟩ ∧ b < B ∧ ∀ i, i < len → ∃ v : Nat, v < 256 ∧ w.cell? ⟨b, off + i, none⟩ = some (.int .u8 v)
theorem Code.below {w w' : World} {B B' : Nat} {a : Option Addr} {len : Nat} (h : Code w B a len) (hb : Below B' w w') (hB : B ≤ B') : Code w' B a len := by
  rcases h with h | ⟨b, off, ha, hlt, hc⟩
  · exact .inl h
  · refine .inr ⟨b, off, ha, hlt, fun i hi => ?_⟩
    obtain ⟨v, hv, hcell⟩ := hc i hi
    exact ⟨v, hv, (hb.cell (p := ⟨b, off + i, none⟩) (by show b < B'; omega)).trans hcell⟩
theorem Code.mono {w : World} {B B' : Nat} {a : Option Addr} {len : Nat} (h : Code w B a len) (hB : B ≤ B') : Code w B' a len := by
  rcases h with h | ⟨b, off, ha, hlt, hc⟩
  · exact .inl h
  · exact .inr ⟨b, off, ha, by omega, hc⟩

/-- nothing that was there is turned but block p -/
def On (p : Nat) (w w' : World) : Prop := w.grownBy w' (some p)
theorem On.refl (p : Nat) (w : World) : On p w w := World.grownBy.refl w _
theorem On.trans {p : Nat} {a b c : World} (h : On p a b) (k : On p b c) : On p a c :=
  ⟨k.os.trans h.os, k.tape.trans h.tape, k.output.trans h.output, Nat.le_trans h.size k.size, fun i hi hp => (k.block i (Nat.lt_of_lt_of_le hi h.size) hp).trans (h.block i hi hp)⟩
theorem On.below {p B : Nat} {w w' : World} (h : On p w w') (hB : B ≤ p) (hs : B ≤ w.heap.size) : Below B w w' :=
  ⟨h.os, h.tape, h.output, h.size, fun k hk => h.block k (by omega) (by simp; omega)⟩
theorem On.drew {p : Nat} {a w : World} (h : On p a w) : On p a w.drew := ⟨h.os, h.tape, h.output, h.size, h.block⟩
theorem On.setCell {p : Nat} {a w : World} (h : On p a w) (i : Nat) (v : Value) : On p a (w.setCell ⟨p, i, none⟩ v) :=
  ⟨h.os, h.tape, h.output, by simpa [World.setCell] using h.size, fun k hk hp => (Below.heap_setCell w ⟨p, i, none⟩ v k (by simpa using hp)).trans (h.block k hk hp)⟩
theorem On.alloc {p : Nat} {a w : World} (h : On p a w) (o : Obj) : On p a (w.alloc o) :=
  ⟨h.os, h.tape, h.output, Nat.le_trans h.size (by show w.heap.size ≤ (w.heap.push o).size; simp), fun k hk hp => (Below.heap_alloc w o k (Nat.lt_of_lt_of_le hk h.size)).trans (h.block k hk hp)⟩
theorem On.grown {p : Nat} {a w w' : World} {row : Option Nat} (h : On p a w) (hg : w.grownBy w' row) (hr : ∀ k, row = some k → a.heap.size ≤ k) : On p a w' :=
  ⟨hg.os.trans h.os, hg.tape.trans h.tape, hg.output.trans h.output, Nat.le_trans h.size hg.size, fun k hk hp => (hg.block k (Nat.lt_of_lt_of_le hk h.size) (fun e => by have := hr k e.symm; omega)).trans (h.block k hk hp)⟩
theorem On.of_below {p : Nat} {w w' : World} (h : Below w.heap.size w w') : On p w w' := ⟨h.os, h.tape, h.output, h.size, fun k hk _ => h.block k hk⟩
theorem Code.on {w w' : World} {B p : Nat} {a : Option Addr} {len : Nat} (h : Code w B a len) (hb : On p w w') (hB : B ≤ p) (hs : B ≤ w.heap.size) : Code w' B a len := h.below (hb.below hB hs) (Nat.le_refl _)

/-- a cursor over that code in block p -/
def Cur (w : World) (p : Nat) (a : Option Addr) (len cap : Nat) : Prop :=
  len ≤ 1048576 ∧ Code w p a len ∧ ∃ (i : Nat) (h : Int), i ≤ len ∧ w.heap[p]? = some (.cells #[.slice a len cap, .int .i64 i, .int .i64 h] 68 (0, 0))

theorem cur_h {w : World} {p : Nat} {a : Option Addr} {len cap i : Nat} {h : Int} (hlen : len ≤ 1048576) (hcode : Code w p a len) (hi : i ≤ len) (hblk : w.heap[p]? = some (.cells #[.slice a len cap, .int .i64 i, .int .i64 h] 68 (0, 0))) (H : Int) :
    Cur (w.setCell ⟨p, 2, none⟩ (.int .i64 H)) p a len cap ∧ On p w (w.setCell ⟨p, 2, none⟩ (.int .i64 H)) := by
  have hb : On p w (w.setCell ⟨p, 2, none⟩ (.int .i64 H)) := (On.refl _ _).setCell 2 _
  have hp : p < w.heap.size := (Array.getElem?_eq_some_iff.1 hblk).1
  exact ⟨⟨hlen, hcode.on hb (Nat.le_refl _) (Nat.le_of_lt hp), i, H, hi, heap_setCell_same w p 2 _ _ (.int .i64 H) hblk⟩, hb⟩
theorem cur_hi {w : World} {p : Nat} {a : Option Addr} {len cap i : Nat} {h : Int} (hlen : len ≤ 1048576) (hcode : Code w p a len) (hi : i < len) (hblk : w.heap[p]? = some (.cells #[.slice a len cap, .int .i64 i, .int .i64 h] 68 (0, 0))) (H : Int) :
    Cur ((w.setCell ⟨p, 2, none⟩ (.int .i64 H)).setCell ⟨p, 1, none⟩ (.int .i64 ((i : Int) + 1))) p a len cap ∧ On p w ((w.setCell ⟨p, 2, none⟩ (.int .i64 H)).setCell ⟨p, 1, none⟩ (.int .i64 ((i : Int) + 1))) := by
  have hb : On p w ((w.setCell ⟨p, 2, none⟩ (.int .i64 H)).setCell ⟨p, 1, none⟩ (.int .i64 ((i : Int) + 1))) := ((On.refl _ _).setCell 2 _).setCell 1 _
  have hp : p < w.heap.size := (Array.getElem?_eq_some_iff.1 hblk).1
  have h2 := heap_setCell_same w p 2 _ _ (.int .i64 H) hblk
  have h1 := heap_setCell_same _ p 1 _ _ (.int .i64 ((i : Int) + 1)) h2
  exact ⟨⟨hlen, hcode.on hb (Nat.le_refl _) (Nat.le_of_lt hp), i + 1, H, hi, h1⟩, hb⟩

theorem Cur.lt {w : World} {p : Nat} {a : Option Addr} {len cap : Nat} (h : Cur w p a len cap) : p < w.heap.size := by
  obtain ⟨_, _, i, h, _, hb⟩ := h
  exact (Array.getElem?_eq_some_iff.1 hb).1
/-- what turns nothing that was there keeps a cursor -/
theorem Cur.below {w w' : World} {p : Nat} {a : Option Addr} {len cap : Nat} (h : Cur w p a len cap) (hb : Below w.heap.size w w') : Cur w' p a len cap := by
  have hp := h.lt
  obtain ⟨h1, h2, i, x, h3, h4⟩ := h
  exact ⟨h1, h2.below hb (Nat.le_of_lt hp), i, x, h3, by rw [hb.block p hp]; exact h4⟩
theorem Cur.alloc {w : World} {p : Nat} {a : Option Addr} {len cap : Nat} (h : Cur w p a len cap) (o : Obj) : Cur (w.alloc o) p a len cap := h.below ((Below.refl _ _).alloc (Nat.le_refl _) o)
theorem Cur.grown {w w' : World} {p : Nat} {a : Option Addr} {len cap : Nat} {row : Option Nat} (h : Cur w p a len cap) (hg : w.grownBy w' row) (hr : ∀ k, row = some k → p < k) : Cur w' p a len cap := by
  have hp := h.lt
  obtain ⟨h1, h2, i, x, h3, h4⟩ := h
  refine ⟨h1, ?_, i, x, h3, by rw [hg.block p hp (fun e => by have := hr p e.symm; omega)]; exact h4⟩
  rcases h2 with h | ⟨b, off, ha, hlt, hc⟩
  · exact .inl h
  · refine .inr ⟨b, off, ha, hlt, fun i hi => ?_⟩
    obtain ⟨v, hv, hcell⟩ := hc i hi
    exact ⟨v, hv, hg.cell hcell (fun e => by have := hr b e.symm; omega)⟩

theorem and255 (x : Int) : ∃ n : Nat, n < 256 ∧ bits .and .i64 x 255 = (n : Int) := by
  refine ⟨(BitVec.ofInt 64 x).toNat % 256, Nat.mod_lt _ (by decide), ?_⟩
  show IntKind.i64.wrap ((BitVec.ofInt 64 x &&& BitVec.ofInt 64 255).toNat : Int) = _
  rw [BitVec.toNat_and, show (BitVec.ofInt 64 255).toNat = 2 ^ 8 - 1 from rfl, Nat.and_two_pow_sub_one_eq_mod, IntKind.wrap_i64]
  omega

theorem draw_byte (p : Nat) (a : Option Addr) (len cap : Nat) (w : World) (hc : Cur w p a len cap) :
    Calls Tryz.prog 35 #[.pointer (some ⟨p, 0, none⟩)] w fun e w' => (∃ x : Nat, x < 256 ∧ e = .returned (.int .i64 x)) ∧ Cur w' p a len cap ∧ On p w w' := by
  obtain ⟨hlen, hcode, i, h, hi, hblk⟩ := hc
  have c0 : w.cell? ⟨p, 0, none⟩ = some (.slice a len cap) := by simp [World.cell?, hblk]
  have c1 : w.cell? ⟨p, 1, none⟩ = some (.int .i64 i) := by simp [World.cell?, hblk]
  have c2 : w.cell? ⟨p, 2, none⟩ = some (.int .i64 h) := by simp [World.cell?, hblk]
  have f1 : w.frozen? ⟨p, 1, none⟩ = false := by simp [World.frozen?, hblk]
  have f2 : w.frozen? ⟨p, 2, none⟩ = false := by simp [World.frozen?, hblk]
  obtain ⟨H, hH⟩ : ∃ H, wrap64 (wrap64 (h * 6364136223846793005) + 1442695040888963407) = H := ⟨_, rfl⟩
  obtain ⟨x, hx, hX⟩ := and255 (bits .xor .i64 (H / 8589934592) (H / 35184372088832))
  by_cases hlt : i < len
  · have HC := cur_hi hlen hcode hlt hblk H
    rcases hcode with h0 | ⟨b, off, rfl, hbp, hbytes⟩
    · omega
    obtain ⟨v, hv, hcv⟩ := hbytes i hlt
    obtain ⟨y, hy, hY⟩ := and255 ((x : Int) + (v : Int))
    have hne : b ≠ p := by omega
    clear hbytes hblk
    go_enter Tryz.func35, Tryz.ntmps35
    go_wp2
    go_region
    all_goals go_wp2
    go_region
    all_goals go_wp2
    go_region
    all_goals go_wp2
    go_ret
    exact ⟨⟨y, hy, rfl⟩, HC.1, HC.2.drew.drew.drew⟩
  · have HC := cur_h hlen hcode hi hblk H
    clear hcode hblk
    go_enter Tryz.func35, Tryz.ntmps35
    go_wp2
    go_region
    all_goals go_wp2
    go_region
    all_goals go_wp2
    go_ret
    exact ⟨⟨x, hx, rfl⟩, HC.1, HC.2.drew.drew⟩

theorem ret_mod (x n : Nat) : Ending.returned (.int .i64 ((x : Int) % (n : Int))) = Ending.returned (.int .i64 ((x % n : Nat) : Int)) := by rw [Int.natCast_emod]

theorem draw_below (p : Nat) (a : Option Addr) (len cap n : Nat) (w : World) (hn : 1 ≤ n ∧ n ≤ 4294967296) (hc : Cur w p a len cap) :
    Calls Tryz.prog 18 #[.pointer (some ⟨p, 0, none⟩), .int .i64 n] w fun e w' => (∃ x : Nat, x < n ∧ e = .returned (.int .i64 x)) ∧ Cur w' p a len cap ∧ On p w w' := by
  have hby := fun (W : World) (h : Cur W p a len cap) => draw_byte p a len cap W h
  by_cases h256 : n ≤ 256
  · have h1 := hby w hc
    clear hby hc
    go_enter Tryz.func18, Tryz.ntmps18
    go_wp2_with (go_at_call 35; refine h1.mono ?_; rintro e w1 ⟨⟨x, hx, rfl⟩, hc1, hb1⟩)
    go_ret
    exact ⟨⟨x % n, Nat.mod_lt _ (by omega), ret_mod x n⟩, hc1, hb1⟩
  · have h1 := hby w hc
    clear hc
    go_enter Tryz.func18, Tryz.ntmps18
    have k1 : True := trivial
    go_wp2_with (go_at_call 35; have _t := k1; refine h1.mono ?_; rintro e w1 ⟨⟨x, hx, rfl⟩, hc1, hb1⟩; clear k1)
    have h2 := hby w1 hc1
    clear h1
    have k2 : True := trivial
    go_wp2_with (go_at_call 35; have _t := k2; refine h2.mono ?_; rintro e w2 ⟨⟨y, hy, rfl⟩, hc2, hb2⟩; clear k2)
    have h3 := hby w2 hc2
    clear h2
    have k3 : True := trivial
    go_wp2_with (go_at_call 35; have _t := k3; refine h3.mono ?_; rintro e w3 ⟨⟨z, hz, rfl⟩, hc3, hb3⟩; clear k3)
    have h4 := hby w3 hc3
    clear h3
    have k4 : True := trivial
    go_wp2_with (go_at_call 35; have _t := k4; refine h4.mono ?_; rintro e w4 ⟨⟨u, hu, rfl⟩, hc4, hb4⟩; clear k4)
    go_ret
    exact ⟨⟨(x * 16777216 + y * 65536 + z * 256 + u) % n, Nat.mod_lt _ (by omega), by rw [← ret_mod]; simp⟩, hc4, ((hb1.trans hb2).trans hb3).trans hb4⟩

/-- a pick out of a list that lies in a block of its own -/
theorem draw_pick_int (p : Nat) (a : Option Addr) (len cap g m : Nat) (zs : List Int) (w : World) (hm : 1 ≤ m ∧ m ≤ 256) (hg : g ≠ p) (hz : ∀ i, i < m → ∃ z ∈ zs, w.cell? ⟨g, i, none⟩ = some (.int .i64 z)) (hc : Cur w p a len cap) :
    Calls Tryz.prog 34 #[.pointer (some ⟨p, 0, none⟩), .slice (some ⟨g, 0, none⟩) m m] w fun e w' => (∃ z ∈ zs, e = .returned (.int .i64 z)) ∧ Cur w' p a len cap ∧ On p w w' := by
  have h1 := draw_below p a len cap m w (by omega) hc
  clear hc
  have HZ : Hid (∀ i, i < m → ∃ z ∈ zs, w.cell? ⟨g, i, none⟩ = some (.int .i64 z)) := hz
  clear hz
  go_enter Tryz.func34, Tryz.ntmps34
  go_wp2_with (go_at_call 18; refine h1.mono ?_; rintro e w1 ⟨⟨x, hx, rfl⟩, hc1, hb1⟩; obtain ⟨z, hzs, hcell⟩ := HZ.out x hx; have hcell1 := hb1.cell hcell (by simpa using hg))
  go_ret
  exact ⟨⟨z, hzs, rfl⟩, hc1, hb1⟩
theorem draw_pick (p : Nat) (a : Option Addr) (len cap g m : Nat) (zs : List ByteArray) (w : World) (hm : 1 ≤ m ∧ m ≤ 256) (hg : g ≠ p) (hz : ∀ i, i < m → ∃ z ∈ zs, w.cell? ⟨g, i, none⟩ = some (.string z)) (hc : Cur w p a len cap) :
    Calls Tryz.prog 31 #[.pointer (some ⟨p, 0, none⟩), .slice (some ⟨g, 0, none⟩) m m] w fun e w' => (∃ z ∈ zs, e = .returned (.string z)) ∧ Cur w' p a len cap ∧ On p w w' := by
  have h1 := draw_below p a len cap m w (by omega) hc
  clear hc
  have HZ : Hid (∀ i, i < m → ∃ z ∈ zs, w.cell? ⟨g, i, none⟩ = some (.string z)) := hz
  clear hz
  go_enter Tryz.func31, Tryz.ntmps31
  go_wp2_with (go_at_call 18; refine h1.mono ?_; rintro e w1 ⟨⟨x, hx, rfl⟩, hc1, hb1⟩; obtain ⟨z, hzs, hcell⟩ := HZ.out x hx; have hcell1 := hb1.cell hcell (by simpa using hg))
  go_ret
  exact ⟨⟨z, hzs, rfl⟩, hc1, hb1⟩

set_option maxRecDepth 100000 in
theorem draw_new (a : Option Addr) (len cap : Nat) (w : World) (hlen : len ≤ 1048576) (hc : Code w w.heap.size a len) :
    Calls Tryz.prog 15 #[.slice a len cap] w fun e w' => e = .returned (.pointer (some ⟨w.heap.size, 0, none⟩)) ∧ Cur w' w.heap.size a len cap ∧ Below w.heap.size w w' := by
  have HC : Hid (Code w w.heap.size a len) := hc
  clear hc
  go_enter Tryz.func15, Tryz.ntmps15
  go_wp2
  go_loop [3, 4] (fun x y => ∃ (h : Int) (k : Nat), k ≤ len ∧ k ≤ 4000 ∧ x = .int .i64 h ∧ y = .int .i64 k) (fun _ y => len - (intOf y).toNat)
  case atStart => exact ⟨_, 0, Nat.zero_le _, Nat.zero_le _, rfl, rfl⟩
  case round =>
    obtain ⟨h, k, hk, hk4, rfl, rfl⟩ := hrel
    by_cases hkl : k < len
    · by_cases hk4' : k < 4000
      · rcases HC.out with h0 | ⟨b, off, rfl, hb, hcells⟩
        · omega
        obtain ⟨v, hv, hcell⟩ := hcells k hkl
        clear hcells
        go_wp2
        go_round
        case rel => exact ⟨_, k + 1, by omega, by omega, rfl, by go_num⟩
        case measure => simp [intOf]; omega
      · go_wp2
        go_ret
        exact ⟨rfl, ⟨hlen, HC.out.below ((Below.refl _ _).alloc (Nat.le_refl _) _) (Nat.le_refl _), 0, h, Nat.zero_le _, heap_alloc_new w _⟩, (Below.refl _ _).alloc (Nat.le_refl _) _⟩
    · go_wp2
      go_ret
      exact ⟨rfl, ⟨hlen, HC.out.below ((Below.refl _ _).alloc (Nat.le_refl _) _) (Nat.le_refl _), 0, h, Nat.zero_le _, heap_alloc_new w _⟩, (Below.refl _ _).alloc (Nat.le_refl _) _⟩

theorem at_row (w : World) (cs : Array Value) (t : TypeId) (i : Nat) (v : Value) (h : cs[i]? = some v) : (w.alloc (.cells cs t)).cell? ⟨w.heap.size, i, none⟩ = some v := by
  have hb : (w.alloc (.cells cs t)).heap[w.heap.size]? = some (.cells cs t) := heap_alloc_new w _
  simp only [World.cell?, hb]
  exact h
theorem at_list (w : World) (zs : List Int) (t : TypeId) : ∀ i, i < zs.length → ∃ z ∈ zs, (w.alloc (.cells (zs.map (Value.int .i64)).toArray t)).cell? ⟨w.heap.size, i, none⟩ = some (.int .i64 z) := fun i hi =>
  ⟨zs[i], List.getElem_mem hi, at_row w _ t i _ (by simp [hi])⟩
theorem at_texts (w : World) (zs : List ByteArray) (t : TypeId) : ∀ i, i < zs.length → ∃ z ∈ zs, (w.alloc (.cells (zs.map Value.string).toArray t)).cell? ⟨w.heap.size, i, none⟩ = some (.string z) := fun i hi =>
  ⟨zs[i], List.getElem_mem hi, at_row w _ t i _ (by simp [hi])⟩
end Go.Proofs.YtoemkbooomgieaaGreatDoor.dw

/- The draw of one case out of n. -/
namespace Go.Proofs.YtoemkbooomgieaaGreatDoor.dw
open Go.ChangeShapes Go.WideShapes Go.ChangeAt Go.RowKit

theorem draw_once (p : Nat) (a : Option Addr) (len cap n : Nat) (w : World) (hn : 1 ≤ n ∧ n ≤ 4294967296) (hc : Cur w p a len cap) :
    Calls Tryz.prog 32 #[.pointer (some ⟨p, 0, none⟩), .int .i64 n] w fun e w' => (∃ b : Bool, e = .returned (.bool b)) ∧ Cur w' p a len cap ∧ On p w w' := by
  have h1 := draw_below p a len cap n w hn hc
  clear hc
  go_enter Tryz.func32, Tryz.ntmps32
  go_wp2_with (go_at_call 18; refine h1.mono ?_; rintro e w1 ⟨⟨x, hx, rfl⟩, hc1, hb1⟩)
  go_ret
  exact ⟨⟨_, rfl⟩, hc1, hb1⟩
end Go.Proofs.YtoemkbooomgieaaGreatDoor.dw
