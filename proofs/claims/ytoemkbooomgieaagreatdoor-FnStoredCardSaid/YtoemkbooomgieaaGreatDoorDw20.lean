/- The specification's writer of a long text answers alike at every text of at most 1048576 bytes; they lay new memory alone. -/
import Derived.Test.YtoemkbooomgieaaGreatDoorDw12
import Derived.Test.YtoemkbooomgieaaGreatDoorDw18
import Derived.Test.YtoemkbooomgieaaGreatDoorDw19
import Derived.Test.YtoemkbooomgieaaGreatDoorDw13
import Derived.WalkKit
import Derived.WalkLawsBesides
import Derived.ProofKit
import Derived.OpenShut
import Derived.ShutString
import Derived.Laws.BytesArg
import Derived.Deep.OwnRows

/- FnStored: the program's tables and stores by their lists, wherever these lie, with their rooms. -/
namespace Go.Proofs.YtoemkbooomgieaaGreatDoor.sdl
open Go.ChangeShapes Go.WideShapes Go.ChangeAt Go.RowKit Go.Proofs.YtoemkbooomgieaaGreatDoor.fl Go.Proofs.YtoemkbooomgieaaGreatDoor.fo Go.Proofs.YtoemkbooomgieaaGreatDoor.rn Go.Proofs.YtoemkbooomgieaaGreatDoor.tk Go.Proofs.YtoemkbooomgieaaGreatDoor.tko Go.Proofs.YtoemkbooomgieaaGreatDoor.tan Go.Proofs.YtoemkbooomgieaaGreatDoor.sok Go.Proofs.YtoemkbooomgieaaGreatDoor.rcI
set_option linter.unusedVariables false

/-- a table of the program's, as it lies, with its rooms -/
structure Ic (W : World) (ys : List flP.Pr) (ks : List Rn) (ya : Option Addr) (yc : Nat) (ra : Option Addr) (rc : Nat) : Prop where
  hy : Row flP.c 3 W W.heap.size ya ys
  hr : VR W W.heap.size ra ks
  nr : ∃ rq, apa.NQ ra rq ks.length rc
  yl : ys.length ≤ yc
  kl : ∀ r ∈ ks, r.l.length ≤ r.c
def Pt (W : World) (ys : List flP.Pr) (R : List (List flP.Pr)) (ya : Option Addr) (yc : Nat) (ra : Option Addr) (rc : Nat) : Prop := ∃ K : List Rn, K.map (·.l) = R ∧ Ic W ys K ya yc ra rc
/-- no greater than a walk bears -/
structure Ft (ys : List flP.Pr) (R : List (List flP.Pr)) : Prop where
  yl : ys.length ≤ 1048576
  rl : R.length ≤ 1048576
  yo : ∀ e ∈ ys, e.k.size ≤ 1048576 ∧ e.v.size ≤ 1048576
  ro : ∀ l ∈ R, l.length ≤ 1048576 ∧ ∀ e ∈ l, e.k.size ≤ 1048576 ∧ e.v.size ≤ 1048576
section
variable {W W' : World} {ys : List flP.Pr} {R : List (List flP.Pr)} {ya ra : Option Addr} {yc rc : Nat} {lg : ByteArray} {sf : Int}
theorem Pt.below (h : Pt W ys R ya yc ra rc) (hb : Below W.heap.size W W') : Pt W' ys R ya yc ra rc := by
  obtain ⟨K, h1, h2⟩ := h
  exact ⟨K, h1, h2.hy.inn hb, h2.hr.inn hb, h2.nr, h2.yl, h2.kl⟩
theorem Ft.fit (h : Ft ys R) {K : List Rn} (hK : K.map (·.l) = R) : tb.Fit ys K := by
  subst hK
  exact ⟨h.yl, by have := h.rl; rwa [List.length_map] at this, h.yo, fun r hr => h.ro r.l (List.mem_map_of_mem hr)⟩
theorem okl_size {l : List flP.Pr} (h : OkL l) : l.length ≤ 300 ∧ ∀ e ∈ l, e.k.size ≤ 100 ∧ e.v.size ≤ 4000 := ⟨h.ll, fun e he => by
  obtain ⟨i, hi⟩ := List.getElem?_of_mem he
  have := h.po i e hi
  exact ⟨this.2.1, this.2.2.1⟩⟩
theorem ok_ft (h : okB ys R = true) : Ft ys R := by
  have h1 := okB_true.1 h
  have h2 := okl_size h1.yo
  refine ⟨by omega, by have := h1.rl; omega, fun e he => by have := h2.2 e he; omega, fun l hl => ?_⟩
  obtain ⟨i, hi⟩ := List.getElem?_of_mem hl
  have h3 := okl_size (h1.ro i l hi)
  exact ⟨by omega, fun e he => by have := h3.2 e he; omega⟩
theorem okS_okB (h : okS ys R lg sf = true) : okB ys R = true := by
  cases hb : okB ys R with
  | true => rfl
  | false => rw [okS_1 hb] at h; cases h
theorem all_ft (h : okB ys R = true) (hl : (all0 ys R).length ≤ 6000) : Ft (all0 ys R) [] := by
  have h1 := okB_true.1 h
  have h2 := okl_size h1.yo
  have hs : ∀ e ∈ all0 ys R, e.k.size ≤ 4000 ∧ e.v.size ≤ 4000 := fun e he => tpu.scan_size (n := 4000) he (fun e he => by have := h2.2 e he; omega) (fun l hl e he => by
    obtain ⟨i, hi⟩ := List.getElem?_of_mem hl
    have := (okl_size (h1.ro i l hi)).2 e he
    omega)
  exact ⟨by omega, by simp, fun e he => by have := hs e he; omega, fun l hl => by cases hl⟩
theorem of_ta {B : Nat} {K : List Rn} (h : TA W B ya ra ys K) (hr : (ys.length ≤ yc ∧ ra.isSome = true ∧ ∀ r ∈ K, r.l.length ≤ r.c) ∧ K.map (·.l) = R) : Pt W ys R ya yc ra rc := by
  obtain ⟨⟨h1, h2, h3⟩, h4⟩ := hr
  obtain ⟨q, rfl⟩ : ∃ q, ra = some q := Option.isSome_iff_exists.1 h2
  exact ⟨K, h4, h.rows.1, h.rows.2, ⟨q, .inl rfl⟩, h1, h3⟩
/-- an answer's table, at or above a block -/
def Ta (W : World) (B : Nat) (ys : List flP.Pr) (R : List (List flP.Pr)) (ya : Option Addr) (yc : Nat) (ra : Option Addr) (rc : Nat) : Prop := ∃ K, TA W B ya ra ys K ∧ ((ys.length ≤ yc ∧ ra.isSome = true ∧ ∀ r ∈ K, r.l.length ≤ r.c) ∧ K.map (·.l) = R)
theorem Ta.pt {B : Nat} (h : Ta W B ys R ya yc ra rc) : Pt W ys R ya yc ra rc := by
  obtain ⟨K, h1, h2⟩ := h
  exact of_ta h1 h2
theorem Ta.on {B : Nat} (h : Ta W B ys R ya yc ra rc) (hb : Below W.heap.size W W') : Ta W' B ys R ya yc ra rc := by
  obtain ⟨K, h1, h2⟩ := h
  exact ⟨K, h1.on hb, h2⟩
theorem Ta.wide {B B' : Nat} (h : Ta W B ys R ya yc ra rc) (hB : B' ≤ B) : Ta W B' ys R ya yc ra rc := by
  obtain ⟨K, h1, h2⟩ := h
  exact ⟨K, h1.wide hB, h2⟩
theorem Ta.turn {B : Nat} (h : Ta W B ys R ya yc ra rc) {S : Nat → Prop} (ht : Tn W W' S) (hS : ∀ k, S k → k < B) : Ta W' B ys R ya yc ra rc := by
  obtain ⟨K, h1, h2⟩ := h
  exact ⟨K, h1.turn ht hS, h2⟩
/-- a table at or above a block, whose runs may be nothing -/
def Tb (W : World) (B : Nat) (ys : List flP.Pr) (R : List (List flP.Pr)) (ya : Option Addr) (yc : Nat) (ra : Option Addr) (rc : Nat) : Prop := ∃ K, TA W B ya ra ys K ∧ ys.length ≤ yc ∧ (∀ r ∈ K, r.l.length ≤ r.c) ∧ (∃ rq, apa.NQ ra rq K.length rc) ∧ K.map (·.l) = R
theorem Ta.tb {B : Nat} (h : Ta W B ys R ya yc ra rc) : Tb W B ys R ya yc ra rc := by
  obtain ⟨K, h1, ⟨h2, h3, h4⟩, h5⟩ := h
  obtain ⟨q, rfl⟩ : ∃ q, ra = some q := Option.isSome_iff_exists.1 h3
  exact ⟨K, h1, h2, h4, ⟨q, .inl rfl⟩, h5⟩
theorem Tb.pt {B : Nat} (h : Tb W B ys R ya yc ra rc) : Pt W ys R ya yc ra rc := by
  obtain ⟨K, h1, h2, h3, h4, h5⟩ := h
  exact ⟨K, h5, h1.rows.1, h1.rows.2, h4, h2, h3⟩
theorem Tb.on {B : Nat} (h : Tb W B ys R ya yc ra rc) (hb : Below W.heap.size W W') : Tb W' B ys R ya yc ra rc := by
  obtain ⟨K, h1, h2⟩ := h
  exact ⟨K, h1.on hb, h2⟩
theorem Tb.wide {B B' : Nat} (h : Tb W B ys R ya yc ra rc) (hB : B' ≤ B) : Tb W B' ys R ya yc ra rc := by
  obtain ⟨K, h1, h2⟩ := h
  exact ⟨K, h1.wide hB, h2⟩
theorem Tb.turn {B : Nat} (h : Tb W B ys R ya yc ra rc) {S : Nat → Prop} (ht : Tn W W' S) (hS : ∀ k, S k → k < B) : Tb W' B ys R ya yc ra rc := by
  obtain ⟨K, h1, h2⟩ := h
  exact ⟨K, h1.turn ht hS, h2⟩
theorem tb_0 (W : World) (B : Nat) : Tb W B [] [] none 0 none 0 :=
  ⟨[], ⟨⟨.inl rfl, .inl rfl, fun r hr => (by cases hr), fun i j r s hi => (by simp at hi), fun g o e => (by cases e), fun k _ hb => (by obtain ⟨r, hr, _⟩ := hb; cases hr)⟩, fun g o e => (by cases e)⟩, Nat.le_refl _, fun r hr => (by cases hr), ⟨⟨0, 0, none⟩, .inr ⟨rfl, rfl, rfl⟩⟩, rfl⟩
theorem nil_pt {a : Option Addr} {l : List flP.Pr} {c : Nat} (h : Row flP.c 3 W W.heap.size a l) (hc : l.length ≤ c) : Pt W l [] a c none 0 :=
  ⟨[], rfl, h, ⟨.inl rfl, fun r hr => by cases hr⟩, ⟨⟨0, 0, none⟩, .inr ⟨rfl, rfl, rfl⟩⟩, hc, fun r hr => by cases hr⟩
theorem cap_of {B k : Nat} {T : TypeId} {s : Nat} {a : Option Addr} {c : Nat} {xs : List Value} (h : W.ownsRow B T s (.slice a k c) k xs) : k ≤ c := by
  obtain ⟨_, ⟨h1, h2⟩ | ⟨g', cap, cur, h1, _, _, hcap, _⟩⟩ := h
  · cases h1; exact Nat.le_refl _
  · cases h1; exact hcap
theorem p_all (h : Pt W ys R ya yc ra rc) (hf : Ft ys R) (lg : ByteArray) (sf : Int) : Calls Tryz.prog 6 #[.agg #[.slice ya ys.length yc, .slice ra R.length rc, .string lg, .int .i64 sf]] W fun e w' =>
    ∃ a c, e = .returned (.slice a (all0 ys R).length c) ∧ (all0 ys R).length ≤ 6000 ∧ (all0 ys R).length ≤ c ∧ Row flP.c 3 w' w'.heap.size a (all0 ys R) ∧ Below W.heap.size W w' := by
  have hF := hf
  obtain ⟨K, rfl, hI⟩ := h
  obtain ⟨rq, hn⟩ := hI.nr
  rw [List.length_map]
  refine (sal.impl_all ys K ya ra rq yc rc hn lg sf W (hF.fit rfl) hI.yl hI.kl hI.hy hI.hr).mono ?_
  rintro e w' ⟨v, rfl, h1, h2, hb⟩
  obtain ⟨a, c, rfl, h3⟩ := own_row flP.c_len h2
  exact ⟨a, c, rfl, h1, cap_of h2, h3, hb⟩
theorem p_ok (h : Pt W ys R ya yc ra rc) (hf : Ft ys R) (hlg : lg.size ≤ 1048576) (hsf : (Lit.int .i64 sf).wf = true) (hT : TB W) : Calls Tryz.prog 12 #[.agg #[.slice ya ys.length yc, .slice ra R.length rc, .string lg, .int .i64 sf]] W fun e w' => e = .returned (.bool (okS ys R lg sf)) ∧ Below W.heap.size W w' := by
  obtain ⟨K, rfl, hI⟩ := h
  obtain ⟨rq, hn⟩ := hI.nr
  rw [List.length_map]
  exact sok.impl_ok ys K ya ra rq yc rc hn lg sf W (hf.fit rfl) hlg hsf hT hI.yl hI.kl hI.hy hI.hr
theorem ct_ta {B g h : Nat} {K ks : List Rn} (c : scp.CT W B ys K g h ks) : Ta W B ys (K.map (·.l)) (some ⟨g, 0, none⟩) ys.length (some ⟨h, 0, none⟩) K.length := ⟨ks, ssy.CT.ta c, ⟨⟨Nat.le_refl _, rfl, fun k hk => by
  obtain ⟨j, hj⟩ := List.getElem?_of_mem hk
  obtain ⟨_, _, hc, _⟩ := c.orr.own j k hj
  omega⟩, c.map⟩⟩
theorem p_copy (h : Pt W ys R ya yc ra rc) (hf : Ft ys R) (hlg : lg.size ≤ 1048576) : Calls Tryz.prog 20 #[.agg #[.slice ya ys.length yc, .slice ra R.length rc, .string lg, .int .i64 sf]] W fun e w' => ∃ sa sc ta tc, e = .returned (.agg #[.slice sa ys.length sc, .slice ta R.length tc, .string lg, .int .i64 sf]) ∧ Ta w' W.heap.size ys R sa sc ta tc ∧ Below W.heap.size W w' := by
  obtain ⟨K, rfl, hI⟩ := h
  rw [List.length_map]
  refine (scp.copy_store ys K ya ra yc rc lg sf W (hf.fit rfl) hlg hI.hy hI.hr).mono ?_
  rintro e w' ⟨g, h, ks, rfl, hc, hb⟩
  exact ⟨_, _, _, _, rfl, (ct_ta hc).wide (by omega), hb⟩
theorem p_sync (h : Pt W ys R ya yc ra rc) (hf : Ft ys R) (hlg : lg.size ≤ 1048576) : Calls Tryz.prog 7 #[.agg #[.slice ya ys.length yc, .slice ra R.length rc, .string lg, .int .i64 sf]] W fun e w' => ∃ sa sc ta tc, e = .returned (.agg #[.slice sa ys.length sc, .slice ta R.length tc, .string lg, .int .i64 (lg.size : Int)]) ∧ Ta w' W.heap.size ys R sa sc ta tc ∧ Below W.heap.size W w' := by
  obtain ⟨K, rfl, hI⟩ := h
  rw [List.length_map]
  refine (ssy.impl_sync ys K ya ra yc rc lg sf W (hf.fit rfl) hlg hI.hy hI.hr).mono ?_
  rintro e w' ⟨sa, sc, ta, tc, ks, rfl, hr, hta, hb⟩
  unfold ssy.ansY ssy.ansR at *
  exact ⟨sa, sc, ta, tc, by rw [List.length_map], ⟨ks, hta, hr⟩, hb⟩
theorem p_step (h : Pt W ys R ya yc ra rc) (hf : Ft ys R) (hlg : lg.size ≤ 1048576) (kd x : Int) (hk : -9223372036854775808 ≤ kd ∧ kd ≤ 9223372036854775807) (hx : -9223372036854775808 ≤ x ∧ x ≤ 9223372036854775807) : Calls Tryz.prog 10 #[.agg #[.slice ya ys.length yc, .slice ra R.length rc, .string lg, .int .i64 sf], .int .i64 kd, .int .i64 x] W fun e w' => ∃ sa sc ta tc, e = .returned (.agg #[.slice sa (sst.ansY ys R lg sf kd x).length sc, .slice ta (sst.ansR ys R lg sf kd x).length tc, .string lg, .int .i64 sf]) ∧ Ta w' W.heap.size (sst.ansY ys R lg sf kd x) (sst.ansR ys R lg sf kd x) sa sc ta tc ∧ Below W.heap.size W w' := by
  obtain ⟨K, rfl, hI⟩ := h
  rw [List.length_map]
  refine (sst.impl_step ys K ya ra yc rc lg sf kd x W (hf.fit rfl) hlg hk.1 hk.2 hx.1 hx.2 hI.hy hI.hr).mono ?_
  rintro e w' ⟨sa, sc, ta, tc, ks, rfl, hr, hta, hb⟩
  exact ⟨sa, sc, ta, tc, rfl, ⟨ks, hta, hr⟩, hb⟩
theorem t_copy (h : Pt W ys R ya yc ra rc) (hf : Ft ys R) : Calls Tryz.prog 39 #[.agg #[.slice ya ys.length yc, .slice ra R.length rc]] W fun e w' => ∃ sa sc ta tc, e = .returned (.agg #[.slice sa ys.length sc, .slice ta R.length tc]) ∧ Ta w' W.heap.size ys R sa sc ta tc ∧ Below W.heap.size W w' := by
  obtain ⟨K, rfl, hI⟩ := h
  rw [List.length_map]
  refine (cpt.copy_table ys K ya ra yc rc W (hf.fit rfl) hI.hy hI.hr).mono ?_
  rintro e w' ⟨g, h, ks, rfl, h1, h2, h3, h4, h5, h6, hb⟩
  exact ⟨_, _, _, _, rfl, (ct_ta (B := W.heap.size + 2) ⟨h4, h5, h1, h2, h3, h6⟩).wide (by omega), hb⟩
end
end Go.Proofs.YtoemkbooomgieaaGreatDoor.sdl

/- FnStored: a batch put into a table, pair by pair. -/
namespace Go.Proofs.YtoemkbooomgieaaGreatDoor.sdp
open Go.ChangeShapes Go.WideShapes Go.ChangeAt Go.RowKit Go.Proofs.YtoemkbooomgieaaGreatDoor.fl Go.Proofs.YtoemkbooomgieaaGreatDoor.fo Go.Proofs.YtoemkbooomgieaaGreatDoor.rn Go.Proofs.YtoemkbooomgieaaGreatDoor.tk Go.Proofs.YtoemkbooomgieaaGreatDoor.tko Go.Proofs.YtoemkbooomgieaaGreatDoor.tan Go.Proofs.YtoemkbooomgieaaGreatDoor.ptp Go.Proofs.YtoemkbooomgieaaGreatDoor.sct Go.Proofs.YtoemkbooomgieaaGreatDoor.sdl
set_option linter.unusedVariables false

section
variable {ys : List flP.Pr} {R : List (List flP.Pr)} {ya ra : Option Addr} {yc rc : Nat} {w : World}
theorem with_ok {e : flP.Pr} (h : withB ys R e = true) : okB (withY ys R e) R = true := by
  unfold withY
  rw [if_pos h]
  unfold withB at h
  simp only [Bool.and_eq_true] at h
  exact h.2
theorem with_no {e : flP.Pr} (h : withB ys R e = false) : withY ys R e = ys := by
  unfold withY
  rw [if_neg (by rw [h]; simp)]
set_option maxRecDepth 100000 in
set_option maxHeartbeats 4000000 in
theorem with_pair (k v : ByteArray) (g : Bool) (h : Pt w ys R ya yc ra rc) (hf : Ft ys R) (hk : k.size ≤ 1048576) (hv : v.size ≤ 1048576) :
    Calls Tryz.prog 41 #[.agg #[.slice ya ys.length yc, .slice ra R.length rc], .agg #[.string k, .string v, .bool g]] w fun e w' => ∃ Y b sa sc ta tc, e = .returned (.tuple #[.agg #[.slice sa (Y : List flP.Pr).length sc, .slice ta R.length tc], .bool b]) ∧ Ta w' w.heap.size Y R sa sc ta tc ∧ (b = true → okB Y R = true) ∧ Below w.heap.size w w' := by
  have hb : Below w.heap.size w (((w.alloc (.cells #[.slice ya ys.length yc, .slice ra R.length rc] 30)).alloc (.cells #[.string k, .string v, .bool g] 61)).alloc (.cells #[.slice none 0 0, .slice none 0 0] 30)) := (((Below.refl _ _).alloc (Nat.le_refl _) _).alloc (by simp) _).alloc (by simp; omega) _
  have hA := bold (bold (bnew w #[.slice ya ys.length yc, .slice ra R.length rc] 30) (.cells #[.string k, .string v, .bool g] 61)) (.cells #[.slice none 0 0, .slice none 0 0] 30)
  have hPx := bold (bnew (w.alloc (.cells #[.slice ya ys.length yc, .slice ra R.length rc] 30)) #[.string k, .string v, .bool g] 61) (.cells #[.slice none 0 0, .slice none 0 0] 30)
  rw [World.size_alloc] at hPx
  have hRs := bnew ((w.alloc (.cells #[.slice ya ys.length yc, .slice ra R.length rc] 30)).alloc (.cells #[.string k, .string v, .bool g] 61)) #[.slice none 0 0, .slice none 0 0] 30
  rw [World.size_alloc, World.size_alloc] at hRs
  obtain ⟨W, hW⟩ : ∃ W, (((w.alloc (.cells #[.slice ya ys.length yc, .slice ra R.length rc] 30)).alloc (.cells #[.string k, .string v, .bool g] 61)).alloc (.cells #[.slice none 0 0, .slice none 0 0] 30)) = W := ⟨_, rfl⟩
  have hsW : W.heap.size = w.heap.size + 3 := by rw [← hW]; simp
  rw [hW] at hb hA hRs hPx
  have HRS : Hid (W.heap[w.heap.size + 1 + 1]? = some (.cells #[.slice none 0 0, .slice none 0 0] 30 (0, 0))) := hRs
  have p0 : W.cell? ⟨w.heap.size, 0, none⟩ = some (.slice ya ys.length yc) := bcell hA rfl
  have p1 : W.cell? ⟨w.heap.size, 1, none⟩ = some (.slice ra R.length rc) := bcell hA rfl
  have q0 : W.cell? ⟨w.heap.size + 1, 0, none⟩ = some (.string k) := bcell hPx rfl
  have q1 : W.cell? ⟨w.heap.size + 1, 1, none⟩ = some (.string v) := bcell hPx rfl
  have q2 : W.cell? ⟨w.heap.size + 1, 2, none⟩ = some (.bool g) := bcell hPx rfl
  obtain ⟨K, hK, hI⟩ := h
  have hRl : R.length = K.length := by rw [← hK, List.length_map]
  have F := hf.fit hK
  have hpu := pti.impl_put ys K ya ra yc rc k v W F hk hv (hI.hy.inn hb) (hI.hr.inn hb)
  have hdr := pti.impl_drop ys K ya ra yc rc k W F hk (hI.hy.inn hb) (hI.hr.inn hb)
  unfold putY putR putB at hpu
  unfold dropY dropR dropB at hdr
  rw [hK, ← hRl] at hpu hdr
  have hw1 := @with_ok ys R ⟨k, v, false⟩
  have hw2 := @with_ok ys R ⟨k, ⟨#[]⟩, true⟩
  obtain ⟨Y1, hY1⟩ : ∃ y, withY ys R ⟨k, v, false⟩ = y := ⟨_, rfl⟩
  obtain ⟨b1, hb1⟩ : ∃ y, withB ys R ⟨k, v, false⟩ = y := ⟨_, rfl⟩
  obtain ⟨Y2, hY2⟩ : ∃ y, withY ys R ⟨k, ⟨#[]⟩, true⟩ = y := ⟨_, rfl⟩
  obtain ⟨b2, hb2⟩ : ∃ y, withB ys R ⟨k, ⟨#[]⟩, true⟩ = y := ⟨_, rfl⟩
  rw [hY1, hb1] at hpu hw1
  rw [hY2, hb2] at hdr hw2
  have HW1 : Hid (b1 = true → okB Y1 R = true) := hw1
  have HW2 : Hid (b2 = true → okB Y2 R = true) := hw2
  clear hA hPx hRs hY1 hb1 hY2 hb2 hw1 hw2 F hI hK hRl
  cases g with
  | true =>
    go_enter Tryz.func41, Tryz.ntmps41
    go_wp2_with (go_at_call 60; fail)
    clear hW p0 p1 q0 q1 q2 hpu
    refine hdr.mono ?_
    rintro e w2 ⟨sa, sc, ta, tc, ks, rfl, hm, hta, hb2⟩
    have r2 := bstay HRS.out hb2 (by omega)
    have r0 : w2.cell? ⟨w.heap.size + 1 + 1, 0, none⟩ = some (.slice none 0 0) := bcell r2 rfl
    have r1 : w2.cell? ⟨w.heap.size + 1 + 1, 1, none⟩ = some (.slice none 0 0) := bcell r2 rfl
    have f0 := bfree r2 0
    have f1 := bfree r2 1
    have HB : Hid (Below w.heap.size w w2) := hb.trans (hb2.mono hb.size)
    have HTA : Hid (TA w2 W.heap.size sa ta Y2 ks) := hta
    have HM : Hid ((Y2.length ≤ sc ∧ ta.isSome = true ∧ ∀ r ∈ ks, r.l.length ≤ r.c) ∧ ks.map (·.l) = R) := hm
    clear hdr r2 hta hm hb2
    go_wp2
    have htn : Tn w2 ((w2.setCell ⟨w.heap.size + 1 + 1, 0, none⟩ (.slice sa Y2.length sc)).setCell ⟨w.heap.size + 1 + 1, 1, none⟩ (.slice ta R.length tc)) (fun k => k = w.heap.size + 1 + 1) := Tn.set (Tn.set (Tn.refl w2 (fun k => k = w.heap.size + 1 + 1)) (S := fun k => k = w.heap.size + 1 + 1) rfl 0 _) rfl 1 _
    exact bodyPost_ret (v := .tuple #[.agg #[.slice sa Y2.length sc, .slice ta R.length tc], .bool b2]) (by simp [results, Tryz.results41, go_sem, r0, r1]) rfl ⟨Y2, b2, sa, sc, ta, tc, rfl, ⟨ks, (HTA.out.turn htn (fun k hk => by omega)).wide (by omega), HM.out⟩, HW2.out, (HB.out.setCell (show w.heap.size ≤ w.heap.size + 1 + 1 by omega) _).setCell (show w.heap.size ≤ w.heap.size + 1 + 1 by omega) _⟩
  | false =>
    go_enter Tryz.func41, Tryz.ntmps41
    go_wp2_with (go_at_call 61; fail)
    clear hW p0 p1 q0 q1 q2 hdr
    refine hpu.mono ?_
    rintro e w2 ⟨sa, sc, ta, tc, ks, rfl, hm, hta, hb2⟩
    have r2 := bstay HRS.out hb2 (by omega)
    have r0 : w2.cell? ⟨w.heap.size + 1 + 1, 0, none⟩ = some (.slice none 0 0) := bcell r2 rfl
    have r1 : w2.cell? ⟨w.heap.size + 1 + 1, 1, none⟩ = some (.slice none 0 0) := bcell r2 rfl
    have f0 := bfree r2 0
    have f1 := bfree r2 1
    have HB : Hid (Below w.heap.size w w2) := hb.trans (hb2.mono hb.size)
    have HTA : Hid (TA w2 W.heap.size sa ta Y1 ks) := hta
    have HM : Hid ((Y1.length ≤ sc ∧ ta.isSome = true ∧ ∀ r ∈ ks, r.l.length ≤ r.c) ∧ ks.map (·.l) = R) := hm
    clear hpu r2 hta hm hb2
    go_wp2
    have htn : Tn w2 ((w2.setCell ⟨w.heap.size + 1 + 1, 0, none⟩ (.slice sa Y1.length sc)).setCell ⟨w.heap.size + 1 + 1, 1, none⟩ (.slice ta R.length tc)) (fun k => k = w.heap.size + 1 + 1) := Tn.set (Tn.set (Tn.refl w2 (fun k => k = w.heap.size + 1 + 1)) (S := fun k => k = w.heap.size + 1 + 1) rfl 0 _) rfl 1 _
    exact bodyPost_ret (v := .tuple #[.agg #[.slice sa Y1.length sc, .slice ta R.length tc], .bool b1]) (by simp [results, Tryz.results41, go_sem, r0, r1]) rfl ⟨Y1, b1, sa, sc, ta, tc, rfl, ⟨ks, (HTA.out.turn htn (fun k hk => by omega)).wide (by omega), HM.out⟩, HW1.out, (HB.out.setCell (show w.heap.size ≤ w.heap.size + 1 + 1 by omega) _).setCell (show w.heap.size ≤ w.heap.size + 1 + 1 by omega) _⟩
/-- what stands on the way of a batch -/
structure Wb (w : World) (n6 : Nat) (Y : List flP.Pr) (R : List (List flP.Pr)) (sa : Option Addr) (sc : Nat) (ta : Option Addr) (tc : Nat) (X : World) : Prop where
  bel : Below w.heap.size w X
  res : X.heap[w.heap.size + 1]? = some (.cells #[.slice none 0 0, .slice none 0 0] 30 (0, 0))
  box : X.heap[n6]? = some (.cells #[.slice sa Y.length sc, .slice ta R.length tc] 30 (0, 0))
  ta : Ta X (w.heap.size + 2) Y R sa sc ta tc
  ft : Ft Y R
  n6 : w.heap.size + 2 ≤ n6
theorem Wb.on {n6 : Nat} {Y : List flP.Pr} {sa ta : Option Addr} {sc tc : Nat} {X X' : World} (h : Wb w n6 Y R sa sc ta tc X) (hb : Below X.heap.size X X') : Wb w n6 Y R sa sc ta tc X' :=
  ⟨h.bel.trans (hb.mono h.bel.size), bstay h.res hb (Array.getElem?_eq_some_iff.1 h.res).1, bstay h.box hb (Array.getElem?_eq_some_iff.1 h.box).1, h.ta.on hb, h.ft, h.n6⟩
/-- the table is another one -/
theorem Wb.put {n6 : Nat} {Y Y' : List flP.Pr} {sa ta sa' ta' : Option Addr} {sc tc sc' tc' : Nat} {X X' : World} (h : Wb w n6 Y R sa sc ta tc X) (hb : Below X.heap.size X X') (ht : Ta X' X.heap.size Y' R sa' sc' ta' tc') (hf : Ft Y' R) :
    Wb w n6 Y' R sa' sc' ta' tc' ((X'.setCell ⟨n6, 0, none⟩ (.slice sa' Y'.length sc')).setCell ⟨n6, 1, none⟩ (.slice ta' R.length tc')) := by
  have h' := h.on hb
  have hn := (Array.getElem?_eq_some_iff.1 h.box).1
  have hX : w.heap.size + 2 ≤ X.heap.size := (Array.getElem?_eq_some_iff.1 h.res).1
  have htn : Tn X' ((X'.setCell ⟨n6, 0, none⟩ (.slice sa' Y'.length sc')).setCell ⟨n6, 1, none⟩ (.slice ta' R.length tc')) (fun k => k = n6) := Tn.set (Tn.set (Tn.refl X' (fun k => k = n6)) (S := fun k => k = n6) rfl 0 _) rfl 1 _
  have h6 := h.n6
  refine ⟨(h'.bel.setCell (show w.heap.size ≤ n6 by omega) _).setCell (show w.heap.size ≤ n6 by omega) _, boff (boff h'.res _ _ _ (by omega)) _ _ _ (by omega), bset (bset h'.box 0 _) 1 _, (ht.turn htn (fun k hk => by omega)).wide (by omega), hf, h.n6⟩
set_option maxRecDepth 100000 in
set_option maxHeartbeats 4000000 in
theorem with_batch (l : List flP.Pr) (ba : Option Addr) (bc : Nat) (h : Pt w ys R ya yc ra rc) (hf : Ft ys R) (hl : l.length ≤ 1048576) (hlo : ∀ e ∈ l, e.k.size ≤ 1048576 ∧ e.v.size ≤ 1048576) (hB : Row flP.c 3 w w.heap.size ba l) :
    Calls Tryz.prog 22 #[.agg #[.slice ya ys.length yc, .slice ra R.length rc], .slice ba l.length bc] w fun e w' => ((∃ Y sa sc ta tc, e = .returned (.tuple #[.agg #[.slice sa (Y : List flP.Pr).length sc, .slice ta R.length tc], .bool true]) ∧ Ta w' w.heap.size Y R sa sc ta tc ∧ Ft Y R) ∨ e = .returned (.tuple #[.agg #[.slice none 0 0, .slice none 0 0], .bool false])) ∧ Below w.heap.size w w' := by
  have hb : Below w.heap.size w ((w.alloc (.cells #[.slice ya ys.length yc, .slice ra R.length rc] 30)).alloc (.cells #[.slice none 0 0, .slice none 0 0] 30)) := ((Below.refl _ _).alloc (Nat.le_refl _) _).alloc (by simp) _
  have hA := bold (bnew w #[.slice ya ys.length yc, .slice ra R.length rc] 30) (.cells #[.slice none 0 0, .slice none 0 0] 30)
  have hRs := bnew (w.alloc (.cells #[.slice ya ys.length yc, .slice ra R.length rc] 30)) #[.slice none 0 0, .slice none 0 0] 30
  rw [World.size_alloc] at hRs
  obtain ⟨W, hW⟩ : ∃ W, ((w.alloc (.cells #[.slice ya ys.length yc, .slice ra R.length rc] 30)).alloc (.cells #[.slice none 0 0, .slice none 0 0] 30)) = W := ⟨_, rfl⟩
  have hsW : W.heap.size = w.heap.size + 2 := by rw [← hW]; simp
  rw [hW] at hb hA hRs
  have HRS : Hid (W.heap[w.heap.size + 1]? = some (.cells #[.slice none 0 0, .slice none 0 0] 30 (0, 0))) := hRs
  have p0 : W.cell? ⟨w.heap.size, 0, none⟩ = some (.slice ya ys.length yc) := bcell hA rfl
  have p1 : W.cell? ⟨w.heap.size, 1, none⟩ = some (.slice ra R.length rc) := bcell hA rfl
  have hcp := t_copy (h.below hb) hf
  have HF : Hid (Ft ys R) := hf
  have HLO : Hid (∀ e ∈ l, e.k.size ≤ 1048576 ∧ e.v.size ≤ 1048576) := hlo
  have HBR : Hid (Row flP.c 3 w w.heap.size ba l) := hB
  clear hA hRs hlo hB h hf
  go_enter Tryz.func22, Tryz.ntmps22
  go_wp2_with (go_at_call 39; fail)
  clear hW p0 p1
  refine hcp.mono ?_
  rintro e w2 ⟨sa, sc, ta, tc, rfl, hta, hb2⟩
  have hs2 := hb2.size
  have hal : Below w2.heap.size w2 (w2.alloc (.cells #[.slice sa ys.length sc, .slice ta R.length tc] 30)) := (Below.refl _ _).alloc (Nat.le_refl _) _
  have HWB : Hid (Wb w w2.heap.size ys R sa sc ta tc (w2.alloc (.cells #[.slice sa ys.length sc, .slice ta R.length tc] 30))) :=
    ⟨(hb.trans (hb2.mono hb.size)).trans (hal.mono (by omega)), bold (bstay HRS.out hb2 (by omega)) _, bnew w2 _ _, (hta.wide (by omega)).on hal, HF.out, by omega⟩
  clear hcp hta hb2 hal hb HRS
  go_wp2
  go_loopw [14] (fun x wr => ∃ (k : Nat) (Y : List flP.Pr) (sa : Option Addr) (sc : Nat) (ta : Option Addr) (tc : Nat), k ≤ l.length ∧ x = .int .i64 k ∧ Hid (Wb w w2.heap.size Y R sa sc ta tc wr)) (fun x _ => l.length - (intOf x).toNat)
  case atStart => exact ⟨0, ys, sa, sc, ta, tc, Nat.zero_le _, rfl, HWB⟩
  case round =>
    obtain ⟨k, Y, sa, sc, ta, tc, hk, rfl, hst⟩ := hrel
    clear HWB
    have hwl := (Array.getElem?_eq_some_iff.1 hst.out.res).1
    have hw6 := (Array.getElem?_eq_some_iff.1 hst.out.box).1
    have hn6 := hst.out.n6
    by_cases hkl : k < l.length
    · have i2 : (k : Int) < (l.length : Int) := by omega
      have HG : Hid (l[k]? = some l[k]) := List.getElem?_eq_getElem hkl
      obtain ⟨⟨pk, pv, pg⟩, he⟩ : ∃ e, l[k] = e := ⟨_, rfl⟩
      rw [he] at HG
      have hpo := HLO.out _ (List.mem_of_getElem? HG.out)
      obtain ⟨bb, bo, rfl, hlt, hcl⟩ := HBR.out.resolve_left (by rintro rfl; simp at hkl)
      have go1 : ∀ (o : Nat) (v : Value), w.cell? ⟨bb, o, none⟩ = some v → wr.cell? ⟨bb, o, none⟩ = some v := fun o v hv => (hst.out.bel.cell (p := ⟨bb, o, none⟩) hlt).trans hv
      have r0 := go1 _ _ (hcl k _ HG.out 0 _ rfl)
      have r1 := go1 _ _ (hcl k _ HG.out 1 _ rfl)
      have r2 := go1 _ _ (hcl k _ HG.out 2 _ rfl)
      rw [Nat.add_zero] at r0
      have hal : Below wr.heap.size wr (wr.alloc (.cells #[.string pk, .string pv, .bool pg] 61)) := (Below.refl _ _).alloc (Nat.le_refl _) _
      have hX := hst.out.on hal
      have x0 : (wr.alloc (.cells #[.string pk, .string pv, .bool pg] 61)).cell? ⟨w2.heap.size, 0, none⟩ = some (.slice sa Y.length sc) := bcell hX.box rfl
      have x1 : (wr.alloc (.cells #[.string pk, .string pv, .bool pg] 61)).cell? ⟨w2.heap.size, 1, none⟩ = some (.slice ta R.length tc) := bcell hX.box rfl
      have hwp := with_pair pk pv pg hX.ta.pt hX.ft hpo.1 hpo.2
      have HX : Hid (Wb w w2.heap.size Y R sa sc ta tc (wr.alloc (.cells #[.string pk, .string pv, .bool pg] 61))) := hX
      clear he hcl go1 hlt hpo hX hal
      go_wp2_with (go_at_call 41; fail)
      clear r0 r1 r2 x0 x1
      refine hwp.mono ?_
      rintro e w3 ⟨Y', b, sa', sc', ta', tc', rfl, hta', hok', hb3⟩
      have H3 : Hid (Wb w w2.heap.size Y R sa sc ta tc w3) := HX.out.on hb3
      have y0 : w3.cell? ⟨w2.heap.size, 0, none⟩ = some (.slice sa Y.length sc) := bcell H3.out.box rfl
      have y1 : w3.cell? ⟨w2.heap.size, 1, none⟩ = some (.slice ta R.length tc) := bcell H3.out.box rfl
      have f0 := bfree H3.out.box 0
      have f1 := bfree H3.out.box 1
      cases b with
      | true =>
        have HN : Hid (Wb w w2.heap.size Y' R sa' sc' ta' tc' ((w3.setCell ⟨w2.heap.size, 0, none⟩ (.slice sa' Y'.length sc')).setCell ⟨w2.heap.size, 1, none⟩ (.slice ta' R.length tc'))) := HX.out.put hb3 hta' (ok_ft (hok' rfl))
        clear hwp hta' hok' hb3 H3 HX hst
        go_wp2
        go_roundw
        case rel => exact ⟨k + 1, Y', sa', sc', ta', tc', by omega, by go_num, HN⟩
        case measure => simp [intOf]; omega
      | false =>
        have hr := boff (boff H3.out.res w2.heap.size 0 (.slice sa' Y'.length sc') (by omega)) w2.heap.size 1 (.slice ta' R.length tc') (by omega)
        have hbl := (H3.out.bel.setCell (p := ⟨w2.heap.size, 0, none⟩) (by show w.heap.size ≤ w2.heap.size; omega) (.slice sa' Y'.length sc')).setCell (p := ⟨w2.heap.size, 1, none⟩) (by show w.heap.size ≤ w2.heap.size; omega) (.slice ta' R.length tc')
        obtain ⟨w4, hw4⟩ : ∃ w4, ((w3.setCell ⟨w2.heap.size, 0, none⟩ (.slice sa' Y'.length sc')).setCell ⟨w2.heap.size, 1, none⟩ (.slice ta' R.length tc')) = w4 := ⟨_, rfl⟩
        rw [hw4] at hr hbl
        have r0 : w4.cell? ⟨w.heap.size + 1, 0, none⟩ = some (.slice none 0 0) := bcell hr rfl
        have r1 : w4.cell? ⟨w.heap.size + 1, 1, none⟩ = some (.slice none 0 0) := bcell hr rfl
        have g0 := bfree hr 0
        have g1 := bfree hr 1
        have HBL : Hid (Below w.heap.size w w4) := hbl
        clear hwp hta' hok' hb3 H3 HX hst hr hbl
        go_wp2
        exact bodyPost_ret (v := .tuple #[.agg #[.slice none 0 0, .slice none 0 0], .bool false]) (by simp [results, Tryz.results22, go_sem, r0, r1]) rfl ⟨.inr rfl, (HBL.out.setCell (Nat.le_succ _) _).setCell (Nat.le_succ _) _⟩
    · obtain rfl : k = l.length := by omega
      have i2 : ¬ (l.length : Int) < (l.length : Int) := by omega
      have x0 : wr.cell? ⟨w2.heap.size, 0, none⟩ = some (.slice sa Y.length sc) := bcell hst.out.box rfl
      have x1 : wr.cell? ⟨w2.heap.size, 1, none⟩ = some (.slice ta R.length tc) := bcell hst.out.box rfl
      have r0 : wr.cell? ⟨w.heap.size + 1, 0, none⟩ = some (.slice none 0 0) := bcell hst.out.res rfl
      have r1 : wr.cell? ⟨w.heap.size + 1, 1, none⟩ = some (.slice none 0 0) := bcell hst.out.res rfl
      have g0 := bfree hst.out.res 0
      have g1 := bfree hst.out.res 1
      go_wp2
      have htn : Tn wr ((wr.setCell ⟨w.heap.size + 1, 0, none⟩ (.slice sa Y.length sc)).setCell ⟨w.heap.size + 1, 1, none⟩ (.slice ta R.length tc)) (fun k => k = w.heap.size + 1) := Tn.set (Tn.set (Tn.refl wr (fun k => k = w.heap.size + 1)) (S := fun k => k = w.heap.size + 1) rfl 0 _) rfl 1 _
      exact bodyPost_ret (v := .tuple #[.agg #[.slice sa Y.length sc, .slice ta R.length tc], .bool true]) (by simp [results, Tryz.results22, go_sem, r0, r1]) rfl ⟨.inl ⟨Y, sa, sc, ta, tc, rfl, (hst.out.ta.turn htn (fun k hk => by omega)).wide (by omega), hst.out.ft⟩, (hst.out.bel.setCell (Nat.le_succ _) _).setCell (Nat.le_succ _) _⟩
end
end Go.Proofs.YtoemkbooomgieaaGreatDoor.sdp

/- The two writers of a number, the specification's and the program's, answer alike at every number and size; they lay new memory alone. -/
namespace Go.Proofs.YtoemkbooomgieaaGreatDoor.pi
open Go.ChangeShapes Go.WideShapes Go.ChangeAt Go.RowKit Go.Proofs.YtoemkbooomgieaaGreatDoor.sz

/-- the k lowest bytes of n, the highest first -/
def lo (n : Nat) : Nat → List Int
  | 0 => []
  | k + 1 => ((n / 256 ^ k % 256 : Nat) : Int) :: lo n k

theorem lo_length (n : Nat) : ∀ k, (lo n k).length = k
  | 0 => rfl
  | k + 1 => by simp [lo, lo_length n k]

theorem lo_get (n : Nat) : ∀ (k i : Nat), i < k → (lo n k).getD i 0 = ((n / 256 ^ (k - 1 - i) % 256 : Nat) : Int)
  | 0, i, h => by omega
  | k + 1, 0, _ => by simp [lo]
  | k + 1, i + 1, h => by
    have := lo_get n k i (by omega)
    rw [lo]
    simp only [List.getD_cons_succ]
    rw [this, show k + 1 - 1 - (i + 1) = k - 1 - i by omega]

theorem put_step {n z k : Nat} {C : Array Value} (hk : k < z) (hC : C.size = z) (h : ∀ j, j < k → C[j]? = some (.int .u8 (n / 256 ^ (z - 1 - j) % 256 : Nat))) :
    ∀ j, j < k + 1 → (C.setIfInBounds k (.int .u8 ((n : Int) / 2 ^ (8 * (z - 1 - k)) % 256)))[j]? = some (.int .u8 (n / 256 ^ (z - 1 - j) % 256 : Nat)) := by
  intro j hj
  have e : (n : Int) / 2 ^ (8 * (z - 1 - k)) % 256 = ((n / 256 ^ (z - 1 - k) % 256 : Nat) : Int) := by
    have : (256 : Nat) ^ (z - 1 - k) = 2 ^ (8 * (z - 1 - k)) := by rw [Nat.pow_mul]
    rw [this]
    simp
  rw [e]
  by_cases hj' : j = k
  · subst hj'
    rw [Array.getElem?_setIfInBounds_self]
    simp [hC, hk]
  · rw [Array.getElem?_setIfInBounds_ne (by omega)]
    exact h j (by omega)

theorem info5 : (Tryz.prog.info? 5).map (fun i => (i.zero, i.size, i.bytes)) = some (some (.int .u8 0), 1, 1) := by kernel_rfl

set_option maxRecDepth 100000 in
theorem impl_ok (n z : Nat) (w : World) (_hn : (n : Int) ≤ 9223372036854775807) (hz : z ≤ 8)  (hmz : decide (0 ≤ mostOf z) = true) (hsh : ((n : Int) / 2 ^ (8 * z) != 0) = false) : Calls Tryz.prog 59 #[.int .i64 n, .int .i64 z] w fun e w' => e = .returned (.string (strOfNums (lo n z))) ∧ Below w.heap.size w w' := by
  have hmk := run_make_row' (P := Tryz.prog) 22 5 (.int .u8 0) 1 Tryz.underlying22 info5 rfl .i64 .i64 z (by omega) (by omega) w
  go_enter Tryz.func59, Tryz.ntmps59
  go_wp2_with (first | (go_at_call 72; refine (sizeOk (z : Int) w).mono ?_; rintro e w' ⟨rfl, rfl⟩))
  go_loopw [25] (fun c wr => ∃ k : Nat, ∃ C : Array Value, k ≤ z ∧ c = .int .i64 k ∧ C.size = z ∧ (∀ j, j < k → C[j]? = some (.int .u8 (n / 256 ^ (z - 1 - j) % 256 : Nat))) ∧ wr = w.alloc (.cells C 5)) (fun c _ => z - (intOf c).toNat)
  case atStart => exact ⟨0, _, Nat.zero_le _, rfl, size_madeCells _ _, fun j hj => by omega, rfl⟩
  case round =>
    obtain ⟨k, C, hk, rfl, hC, hall, rfl⟩ := hrel
    by_cases hkz : k < z
    · have HA : Hid (∀ j, j < k → C[j]? = some (.int .u8 (n / 256 ^ (z - 1 - j) % 256 : Nat))) := hall
      clear hall
      go_wp2
      go_roundw
      case rel => exact ⟨k + 1, _, by omega, by go_num, by simp [hC], put_step hkz hC HA.out, rfl⟩
      case measure => simp [intOf]; omega
    · obtain rfl : k = z := by omega
      have hcv := run_convert_bytes_arg (P := Tryz.prog) (w.alloc (.cells C 5)) 22 5 Tryz.underlying22 Tryz.underlying5 w.heap.size 0 k k (lo n k) (lo_length n k) (fun i hi => by
        have := hall i hi
        rw [← lo_get n k i hi] at this
        simpa [World.cell?_alloc_at] using this) 9 Tryz.underlying9
      clear hall
      go_wp2
      go_ret
      exact ⟨rfl, (Below.refl _ _).alloc (Nat.le_refl _) _⟩

theorem impl_none (n z : Int) (w : World) (hmz : decide (0 ≤ mostOf z) = false) : Calls Tryz.prog 59 #[.int .i64 n, .int .i64 z] w fun e w' => e = .returned (.string ByteArray.empty) ∧ Below w.heap.size w w' := by
  go_enter Tryz.func59, Tryz.ntmps59
  go_wp2_with (first | (go_at_call 72; refine (sizeOk z w).mono ?_; rintro e w' ⟨rfl, rfl⟩))
  go_ret
  exact ⟨rfl, Below.refl _ _⟩

theorem impl_neg (n z : Int) (w : World) (hmz : decide (0 ≤ mostOf z) = true) (hn : n < 0) : Calls Tryz.prog 59 #[.int .i64 n, .int .i64 z] w fun e w' => e = .returned (.string ByteArray.empty) ∧ Below w.heap.size w w' := by
  go_enter Tryz.func59, Tryz.ntmps59
  go_wp2_with (first | (go_at_call 72; refine (sizeOk z w).mono ?_; rintro e w' ⟨rfl, rfl⟩))
  go_ret
  exact ⟨rfl, Below.refl _ _⟩

theorem impl_big (n z : Nat) (w : World) (_hz : z ≤ 8) (hmz : decide (0 ≤ mostOf z) = true) (hsh : ((n : Int) / 2 ^ (8 * z) != 0) = true) : Calls Tryz.prog 59 #[.int .i64 n, .int .i64 z] w fun e w' => e = .returned (.string ByteArray.empty) ∧ Below w.heap.size w w' := by
  have h0 : decide ((n : Int) < 0) = false := by simp
  go_enter Tryz.func59, Tryz.ntmps59
  go_wp2_with (first | (go_at_call 72; refine (sizeOk (z : Int) w).mono ?_; rintro e w' ⟨rfl, rfl⟩))
  all_goals go_ret
  all_goals exact ⟨rfl, Below.refl _ _⟩

/-- WHAT BOTH WRITERS ANSWER -/
def fits (n z : Int) : Bool := decide (0 ≤ n) && decide (n ≤ mostOf z)
def text (n z : Int) : ByteArray := if fits n z then strOfNums (lo n.toNat z.toNat) else ByteArray.empty

theorem text_size (n z : Int) : (text n z).size ≤ 8 := by
  unfold text
  by_cases h : fits n z = true
  · rw [if_pos h, strOfNums_size, lo_length]
    simp only [fits, Bool.and_eq_true, decide_eq_true_eq] at h
    have := size_of z (by omega)
    omega
  · rw [if_neg h]
    exact Nat.zero_le _

theorem impl_put (n z : Int) (w : World) (hn : n ≤ 9223372036854775807) :
    Calls Tryz.prog 59 #[.int .i64 n, .int .i64 z] w fun e w' => e = .returned (.string (text n z)) ∧ Below w.heap.size w w' := by
  by_cases hm : 0 ≤ mostOf z
  · have hz := size_of z hm
    by_cases h0 : 0 ≤ n
    · obtain ⟨m, rfl⟩ := Int.eq_ofNat_of_zero_le h0
      obtain ⟨y, rfl⟩ := Int.eq_ofNat_of_zero_le (show 0 ≤ z by omega)
      have hy : y = 1 ∨ y = 2 ∨ y = 4 ∨ y = 8 := by omega
      by_cases h : fits m y = true
      · have h' := h
        simp only [fits, Bool.and_eq_true, decide_eq_true_eq] at h'
        have hle := h'.2
        simp only [text, h, if_true]
        refine impl_ok m y w hn (by omega) (by simpa using hm) ?_
        rcases hy with rfl | rfl | rfl | rfl <;> simp [mostOf] at hle ⊢ <;> omega
      · have h' := h
        simp only [fits, Bool.and_eq_true, decide_eq_true_eq] at h'
        have hle : mostOf y < m := by omega
        simp only [text, h, Bool.false_eq_true, if_false]
        refine impl_big m y w (by omega) (by simpa using hm) ?_
        rcases hy with rfl | rfl | rfl | rfl <;> simp [mostOf] at hle ⊢ <;> omega
    · have h : fits n z = false := by simp [fits, h0]
      simp only [text, h, Bool.false_eq_true, if_false]
      exact impl_neg n z w (by simpa using hm) (by omega)
  · have h : fits n z = false := by simp only [fits, Bool.and_eq_false_iff, decide_eq_false_iff_not]; omega
    simp only [text, h, Bool.false_eq_true, if_false]
    exact impl_none n z w (by simpa using hm)
end Go.Proofs.YtoemkbooomgieaaGreatDoor.pi

/- The two writers of a short text, the specification's and the program's, answer alike at every text of at most 1048576 bytes; they lay new memory alone. -/
namespace Go.Proofs.YtoemkbooomgieaaGreatDoor.ps
open Go.ChangeShapes Go.WideShapes Go.ChangeAt Go.RowKit Go.Proofs.YtoemkbooomgieaaGreatDoor.pi

def out (s : ByteArray) : ByteArray := if s.size ≤ 255 then text s.size 1 ++ s else ByteArray.empty

theorem impl_putShort (s : ByteArray) (w : World) (hs : s.size ≤ 1048576) :
    Calls Tryz.prog 105 #[.string s] w fun e w' => e = .returned (.string (out s)) ∧ Below w.heap.size w w' := by
  have h8 := text_size s.size 1
  by_cases h : s.size ≤ 255
  · simp only [out, h, if_true]
    go_enter Tryz.func105, Tryz.ntmps105
    go_wp2_with (first | (go_at_call 59; refine (impl_put (s.size : Int) 1 w (by omega)).mono ?_; rintro e w1 ⟨rfl, hb1⟩) | (go_at_call 87; go_in))
    go_ret
    exact ⟨rfl, hb1⟩
  · simp only [out, h, if_false]
    go_enter Tryz.func105, Tryz.ntmps105
    go_wp2
    go_ret
    exact ⟨rfl, Below.refl _ _⟩
end Go.Proofs.YtoemkbooomgieaaGreatDoor.ps

/- The specification's writer of a long text answers alike at every text of at most 1048576 bytes; they lay new memory alone. -/
namespace Go.Proofs.YtoemkbooomgieaaGreatDoor.pl
open Go.ChangeShapes Go.WideShapes Go.ChangeAt Go.RowKit Go.Proofs.YtoemkbooomgieaaGreatDoor.pi

def out (s : ByteArray) : ByteArray := if s.size ≤ 100000 then text s.size 4 ++ s else ByteArray.empty

end Go.Proofs.YtoemkbooomgieaaGreatDoor.pl
