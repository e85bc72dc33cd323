/- heap.Push over the runs: one more run in the heap. -/
import Derived.Test.YtoemkbooomgieaaGreatDoorDw05
import Derived.Test.YtoemkbooomgieaaGreatDoorDoneKit
import Derived.Test.YtoemkbooomgieaaGreatDoorFlatOwn
import Derived.Maps.AppendAt

/- A heap of runs in memory: its box, its row, its methods, two of its runs changing places. -/
namespace Go.Proofs.YtoemkbooomgieaaGreatDoor.rst
open Go.ChangeShapes Go.WideShapes Go.ChangeAt Go.RowKit Go.Proofs.YtoemkbooomgieaaGreatDoor.fl Go.Proofs.YtoemkbooomgieaaGreatDoor.ri
set_option linter.unusedVariables false

/-- the row g holds the runs L, with room for cap -/
def HR (w : World) (g cap : Nat) (L : List It) : Prop :=
  ∃ cur, w.heap[g]? = some (.cells cur 101 (0, 0)) ∧ cur.size = cap * 2 ∧ L.length ≤ cap ∧ cap ≤ maxLen ∧ ∀ (i : Nat) (r : It), L[i]? = some r → ∀ (j : Nat) (v : Value), (cI r)[j]? = some v → cur[i * 2 + j]? = some v
/-- a heap's box hb and its row g, beside the world W0 in which its runs lie -/
structure SG (W0 : World) (hb g cap : Nat) (L : List It) (w : World) : Prop where
  bel : Below W0.heap.size W0 w
  hbB : W0.heap.size ≤ hb
  gB : W0.heap.size ≤ g
  ne : g ≠ hb
  box : w.heap[hb]? = some (.cells #[.slice (some ⟨g, 0, none⟩) L.length cap] 97 (0, 0))
  row : HR w g cap L
  fits : ∀ r ∈ L, Fits W0 W0.heap.size r
/-- nothing but the block g is turned; new memory besides -/
structure Kp (g : Nat) (w w' : World) : Prop where
  os : w'.os = w.os
  tape : w'.tape = w.tape
  output : w'.output = w.output
  size : w.heap.size ≤ w'.heap.size
  block : ∀ k, k < w.heap.size → k ≠ g → w'.heap[k]? = w.heap[k]?
theorem Kp.refl (g : Nat) (w : World) : Kp g w w := ⟨rfl, rfl, rfl, Nat.le_refl _, fun _ _ _ => rfl⟩
theorem Kp.trans {g : Nat} {a b c : World} (h1 : Kp g a b) (h2 : Kp g b c) : Kp g a c :=
  ⟨h2.os.trans h1.os, h2.tape.trans h1.tape, h2.output.trans h1.output, Nat.le_trans h1.size h2.size, fun k hk hne => (h2.block k (Nat.lt_of_lt_of_le hk h1.size) hne).trans (h1.block k hk hne)⟩
theorem Kp.of {g : Nat} {a b : World} (h : Below a.heap.size a b) : Kp g a b := ⟨h.os, h.tape, h.output, h.size, fun k hk _ => h.block k hk⟩

theorem load_heap (a : Addr) (v : Value) (w : World) (h : w.cell? a = some v) : (loadVar 97 a).run Tryz.prog w = .ok v w := by
  simp [loadVar, isAgg, underlying, Tryz.underlying97, h, Result.andThen]
theorem chk (nm : String) (a : Addr) (w : World) : (Builtin.ssaWrapNilChk_ #[99] 99 #[.pointer (some a), strVal "", strVal nm]).run Tryz.prog w = .ok (.pointer (some a)) w := rfl
theorem recv (nm : String) (a : Addr) (v : Value) (w : World) (h : w.cell? a = some v) : (receiverAt 99 (.val (.pointer (some a))) false (some nm)).run Tryz.prog w = .ok v w := by
  have h1 := load_heap a v w h
  have h2 := chk nm a w
  simp [receiverAt, underlying, Tryz.underlying99, Place.get, asAddr, Result.andThen, h1, h2]
theorem meth_of (n : Nat) (nm : String) (f : FuncId) (a : Addr) (v : Value) (w : World) (hf : (Tryz.prog.info? 99).map (fun i => (i.methods.find? (·.name == nm)).map (fun m => (m.path.toList, m.func, m.path.isEmpty))) = some (some ([], some (f, false), true))) (h : w.cell? a = some v) :
    (method (n + 1) 99 (.pointer (some a)) nm).run Tryz.prog w = .ok (f, v) w := by
  obtain ⟨I, hI, h1⟩ := Option.map_eq_some_iff.1 hf
  obtain ⟨m, hm, h2⟩ := Option.map_eq_some_iff.1 h1
  simp only [Prod.mk.injEq] at h2
  obtain ⟨p1, p2, p3⟩ := h2
  have p4 : m.path = #[] := by simpa using p3
  simp [method, typeInfo, hI, hm, p1, p2, follow, Result.andThen]
  rw [if_pos p4, recv _ a v w h]
theorem meth_less (a : Addr) (v : Value) (w : World) (h : w.cell? a = some v) : (method 345 99 (.pointer (some a)) "Less").run Tryz.prog w = .ok (159, v) w := meth_of 344 "Less" _ a v w (by kernel_rfl) h
theorem meth_swap (a : Addr) (v : Value) (w : World) (h : w.cell? a = some v) : (method 345 99 (.pointer (some a)) "Swap").run Tryz.prog w = .ok (160, v) w := meth_of 344 "Swap" _ a v w (by kernel_rfl) h
theorem meth_len (a : Addr) (v : Value) (w : World) (h : w.cell? a = some v) : (method 345 99 (.pointer (some a)) "Len").run Tryz.prog w = .ok (53, v) w := meth_of 344 "Len" _ a v w (by kernel_rfl) h
theorem meth_pop (a : Addr) (w : World) : (method 345 99 (.pointer (some a)) "Pop").run Tryz.prog w = .ok (164, .pointer (some a)) w := by kernel_rfl
theorem meth_push (a : Addr) (w : World) : (method 345 99 (.pointer (some a)) "Push").run Tryz.prog w = .ok (165, .pointer (some a)) w := by kernel_rfl

theorem HR.at {w : World} {g cap i : Nat} {L : List It} {r : It} (h : HR w g cap L) (hi : L[i]? = some r) : cor.At w g i r := by
  obtain ⟨cur, h1, _, _, _, h5⟩ := h
  exact ⟨(Array.getElem?_eq_some_iff.1 h1).1, by have := bcell (j := i * 2) h1 (h5 i r hi 0 _ rfl); exact this, bcell (j := i * 2 + 1) h1 (h5 i r hi 1 _ rfl)⟩
theorem HR.below {w w' : World} {g cap : Nat} {L : List It} (h : HR w g cap L) (hb : w'.heap[g]? = w.heap[g]?) : HR w' g cap L := by
  obtain ⟨cur, h1, h2⟩ := h
  exact ⟨cur, hb.trans h1, h2⟩
theorem SG.on {W0 : World} {hb g cap : Nat} {L : List It} {w w' : World} (h : SG W0 hb g cap L w) (hb' : Below w.heap.size w w') : SG W0 hb g cap L w' := by
  obtain ⟨cur, h1, h2⟩ := h.row
  exact ⟨h.bel.trans (hb'.mono h.bel.size), h.hbB, h.gB, h.ne, (hb'.block hb (Array.getElem?_eq_some_iff.1 h.box).1).trans h.box, ⟨cur, (hb'.block g (Array.getElem?_eq_some_iff.1 h1).1).trans h1, h2⟩, h.fits⟩
theorem SG.fit {W0 : World} {hb g cap : Nat} {L : List It} {w : World} (h : SG W0 hb g cap L w) {i : Nat} {r : It} (hi : L[i]? = some r) : Fits w w.heap.size r := by
  have f := (h.fits r (List.mem_of_getElem? hi)).below h.bel
  exact ⟨Nat.lt_of_lt_of_le f.lt h.bel.size, f.ne, f.len, f.pl, f.cells⟩
/-- the world behind a swap -/
theorem swap_heap {X : World} {g i j : Nat} {A B : It} {cur : Array Value} (hb : X.heap[g]? = some (.cells cur 101 (0, 0))) : (rsw.S2 X g i j A B).heap[g]? = some (.cells ((((cur.setIfInBounds (i * 2) (.slice (some ⟨B.b, B.o, none⟩) B.l.length B.c)).setIfInBounds (i * 2 + 1) (.int .i64 B.p)).setIfInBounds (j * 2) (.slice (some ⟨A.b, A.o, none⟩) A.l.length A.c)).setIfInBounds (j * 2 + 1) (.int .i64 A.p)) 101 (0, 0)) :=
  bset (bset (bset (bset hb _ _) _ _) _ _) _ _
theorem SG.swap {W0 : World} {hb g cap i j : Nat} {L : List It} {w : World} {A B : It} (h : SG W0 hb g cap L w) (hi : L[i]? = some A) (hj : L[j]? = some B) : SG W0 hb g cap (hp.sw L i j) (rsw.S2 w.drew g i j A B) ∧ Kp g w (rsw.S2 w.drew g i j A B) := by
  obtain ⟨cur, h1, h2, h3, h4, h5⟩ := h.row
  have hil := (List.getElem?_eq_some_iff.1 hi).1
  have hjl := (List.getElem?_eq_some_iff.1 hj).1
  have h1d : w.drew.heap[g]? = some (.cells cur 101 (0, 0)) := h1
  have hk : Kp g w (rsw.S2 w.drew g i j A B) := by
    refine ⟨rfl, rfl, rfl, by simp [rsw.S2, rsw.S1, rsw.lay], fun k hk hne => ?_⟩
    unfold rsw.S2 rsw.S1 rsw.lay
    rw [Below.heap_setCell _ _ _ k hne, Below.heap_setCell _ _ _ k hne, Below.heap_setCell _ _ _ k hne, Below.heap_setCell _ _ _ k hne]
    rfl
  have hgB := h.gB
  have hsz := h.bel.size
  have hbl := (Array.getElem?_eq_some_iff.1 h.box).1
  refine ⟨⟨⟨hk.os.trans h.bel.os, hk.tape.trans h.bel.tape, hk.output.trans h.bel.output, Nat.le_trans hsz hk.size, fun k hkk => (hk.block k (by omega) (by omega)).trans (h.bel.block k hkk)⟩, h.hbB, h.gB, h.ne, ?_, ⟨_, swap_heap h1d, by simpa using h2, by rw [hp.sw_len]; exact h3, h4, ?_⟩, fun r hr => h.fits r ((hp.sw_perm hi hj).mem_iff.1 hr)⟩, hk⟩
  · rw [hp.sw_len]
    exact (hk.block hb hbl (Ne.symm h.ne)).trans h.box
  · intro k r hk' q v hv
    rw [hp.sw_at hi hj] at hk'
    have hq : q < 2 := by have := (List.getElem?_eq_some_iff.1 hv).1; rwa [cI_len] at this
    have hkl : k < L.length := by
      rcases Nat.lt_or_ge k L.length with h' | h'
      · exact h'
      · rw [if_neg (by omega), if_neg (by omega), List.getElem?_eq_none h'] at hk'
        cases hk'
    simp only [Array.getElem?_setIfInBounds, Array.size_setIfInBounds]
    by_cases e1 : k = j
    · subst e1
      rw [if_pos rfl] at hk'
      cases hk'
      have : q = 0 ∨ q = 1 := by omega
      rcases this with rfl | rfl
      · simp [cI] at hv
        rw [if_neg (by omega), if_pos (by omega), if_pos (by omega), hv]
      · simp [cI] at hv
        rw [if_pos (by omega), if_pos (by omega), hv]
    · rw [if_neg e1] at hk'
      rw [if_neg (by omega), if_neg (by omega)]
      by_cases e2 : k = i
      · subst e2
        rw [if_pos rfl] at hk'
        cases hk'
        have : q = 0 ∨ q = 1 := by omega
        rcases this with rfl | rfl
        · simp [cI] at hv
          rw [if_neg (by omega), if_pos (by omega), if_pos (by omega), hv]
        · simp [cI] at hv
          rw [if_pos (by omega), if_pos (by omega), hv]
      · rw [if_neg e2] at hk'
        rw [if_neg (by omega), if_neg (by omega)]
        exact h5 k r hk' q v hv

end Go.Proofs.YtoemkbooomgieaaGreatDoor.rst

/- container/heap's up and down over the runs: the same runs, in a heap's order. -/
namespace Go.Proofs.YtoemkbooomgieaaGreatDoor.rup
open Go.ChangeShapes Go.WideShapes Go.ChangeAt Go.RowKit Go.Proofs.YtoemkbooomgieaaGreatDoor.fl Go.Proofs.YtoemkbooomgieaaGreatDoor.ri Go.Proofs.YtoemkbooomgieaaGreatDoor.rst
set_option linter.unusedVariables false

theorem half {k : Nat} (h : k ≠ 0) : ((k : Int) - 1).tdiv 2 = ((hp.P k : Nat) : Int) ∧ ((k : Int) - 1) / 2 = ((hp.P k : Nat) : Int) := by
  obtain ⟨m, rfl⟩ : ∃ m, k = m + 1 := ⟨k - 1, by omega⟩
  have e : ((m + 1 : Nat) : Int) - 1 = (m : Int) := by omega
  have e2 : hp.P (m + 1) = m / 2 := rfl
  rw [e, e2]
  exact ⟨rfl, by omega⟩

set_option maxRecDepth 100000 in
set_option maxHeartbeats 1000000 in
theorem up_run (W0 : World) (hb g cap j : Nat) (L : List It) (w : World) (hS : SG W0 hb g cap L w) (hj : j < L.length) (hl : L.length ≤ 100) (hU : hp.UpI less L j L.length) :
    Calls Tryz.prog 79 #[.iface 99 (.pointer (some ⟨hb, 0, none⟩)), .int .i64 j] w fun e w' => e = .returned (.tuple #[]) ∧ ∃ M : List It, M.Perm L ∧ hp.Heap less M M.length ∧ SG W0 hb g cap M w' ∧ Kp g w w' := by
  go_enter Tryz.func79, Tryz.ntmps79
  go_wp2
  go_loopw [1, 4] (fun x _ wr => ∃ (k : Nat) (M : List It), x = .int .i64 k ∧ k < M.length ∧ Hid (M.length = L.length) ∧ Hid (M.Perm L) ∧ Hid (hp.UpI less M k M.length) ∧ SG W0 hb g cap M wr ∧ Kp g w wr) (fun x _ _ => (intOf x).toNat)
  case atStart => exact ⟨j, L, rfl, hj, rfl, List.Perm.refl _, hU, hS, Kp.refl _ _⟩
  case round =>
    obtain ⟨k, M, rfl, hkm, hml, hperm, hup, hst, hkp⟩ := hrel
    have HST : Hid (SG W0 hb g cap M wr) := hst
    have HKP : Hid (Kp g w wr) := hkp
    clear hst hkp
    by_cases hk0 : k = 0
    · subst hk0
      have hfin : Hid (hp.Heap less M M.length) := hp.up_end hup.out (fun h => absurd h (by omega))
      go_wp2
      go_end0
      exact ⟨rfl, M, hperm.out, hfin.out, HST.out, HKP.out⟩
    · obtain ⟨hd, hd2⟩ := half hk0
      have hk100 : k ≤ 100 := by have := hml.out; omega
      have hpk : hp.P k < k := hp.P_lt (by omega)
      have gk : M[k]? = some M[k] := List.getElem?_eq_getElem hkm
      have gp : M[hp.P k]? = some (M[hp.P k]'(by omega)) := List.getElem?_eq_getElem _
      obtain ⟨A, hA⟩ : ∃ A, M[k] = A := ⟨_, rfl⟩
      obtain ⟨B, hB⟩ : ∃ B, M[hp.P k]'(by omega) = B := ⟨_, rfl⟩
      rw [hA] at gk
      rw [hB] at gp
      have HA : Hid (M[k]? = some A) := gk
      have HB : Hid (M[hp.P k]? = some B) := gp
      have HU2 : Hid (less A B = true → hp.UpI less (hp.sw M (hp.P k) k) (hp.P k) M.length) := fun h => hp.up_step ord (Nat.le_refl _) (by omega) hkm hup.out gp gk h
      have HU3 : Hid (less A B = false → hp.Heap less M M.length) := fun h => hp.up_end hup.out (fun _ a b ha hb => by rw [gp] at ha; rw [gk] at hb; cases ha; cases hb; exact h)
      obtain ⟨p, hp'⟩ : ∃ p, hp.P k = p := ⟨_, rfl⟩
      rw [hp'] at hd hd2 hpk HB HU2
      clear gk gp hA hB hp' hup
      have hne : ¬ ((p : Int) = (k : Int)) := by omega
      have hbx : wr.cell? ⟨hb, 0, none⟩ = some (.slice (some ⟨g, 0, none⟩) M.length cap) := bcell HST.out.box rfl
      have hm := meth_less ⟨hb, 0, none⟩ _ wr hbx
      have hless := cor.less_run g M.length cap k p A B wr hkm (by omega) (HST.out.row.at HA.out) (HST.out.row.at HB.out) (HST.out.fit HA.out) (HST.out.fit HB.out)
      obtain ⟨bb, hbb⟩ : ∃ bb, less A B = bb := ⟨_, rfl⟩
      rw [hbb] at hless HU2 HU3
      clear hbb
      go_wp2_with (go_at_call 159; fail)
      refine hless.mono ?_
      rintro e w1 ⟨rfl, hb1⟩
      have HS1 : Hid (SG W0 hb g cap M w1) := HST.out.on hb1
      have HK1 : Hid (Kp g w w1) := HKP.out.trans (Kp.of hb1)
      clear hless hm hbx hb1 HST HKP
      cases bb with
      | false =>
        go_wp2
        go_end0
        exact ⟨rfl, M, hperm.out, HU3.out (by trivial), HS1.out, HK1.out⟩
      | true =>
        have hbx1 : w1.cell? ⟨hb, 0, none⟩ = some (.slice (some ⟨g, 0, none⟩) M.length cap) := bcell HS1.out.box rfl
        have hm1 := meth_swap ⟨hb, 0, none⟩ _ w1 hbx1
        obtain ⟨cur, c1, c2, c3, _⟩ := HS1.out.row
        have hsw := rsw.swap_run g M.length cap p k cur B A w1 (by omega) hkm (by omega) c1 (HS1.out.row.at HB.out) (HS1.out.row.at HA.out)
        obtain ⟨hs2, hk2⟩ := HS1.out.swap HB.out HA.out
        have HS2 : Hid (SG W0 hb g cap (hp.sw M p k) (rsw.S2 w1.drew g p k B A)) := hs2
        have HK2 : Hid (Kp g w (rsw.S2 w1.drew g p k B A)) := HK1.out.trans hk2
        have HP2 : Hid ((hp.sw M p k).Perm L) := (hp.sw_perm HB.out HA.out).trans hperm.out
        have HLN : Hid ((hp.sw M p k).length = M.length) := hp.sw_len
        have HU4 : Hid (hp.UpI less (hp.sw M p k) p (hp.sw M p k).length) := by unfold Hid; rw [HLN.out]; exact HU2.out rfl
        obtain ⟨X, hX⟩ : ∃ X, rsw.S2 w1.drew g p k B A = X := ⟨_, rfl⟩
        rw [hX] at hsw HS2 HK2
        clear hs2 hk2 c1 c2 c3 hX
        go_wp2_with (go_at_call 160; fail)
        refine hsw.mono ?_
        rintro e w2 ⟨rfl, rfl⟩
        clear hsw hm1 hbx1
        go_wp2
        go_roundw
        case rel => exact ⟨p, hp.sw M p k, rfl, by rw [HLN.out]; omega, by unfold Hid; rw [HLN.out]; exact hml.out, HP2, HU4, HS2.out, HK2.out⟩
        case measure => simp [intOf]; omega
end Go.Proofs.YtoemkbooomgieaaGreatDoor.rup

/- container/heap's down over the runs: the same runs, in a heap's order. -/
namespace Go.Proofs.YtoemkbooomgieaaGreatDoor.rdn
open Go.ChangeShapes Go.WideShapes Go.ChangeAt Go.RowKit Go.Proofs.YtoemkbooomgieaaGreatDoor.fl Go.Proofs.YtoemkbooomgieaaGreatDoor.ri Go.Proofs.YtoemkbooomgieaaGreatDoor.rst
set_option linter.unusedVariables false

/-- what stands at the head of a round -/
structure Rd (W0 : World) (hb g cap n : Nat) (L : List It) (w : World) (k : Nat) (M : List It) (wr : World) : Prop where
  kn : k < n ∨ k = 0
  len : M.length = L.length
  perm : M.Perm L
  dn : hp.DnI less M k n
  rest : ∀ q, n ≤ q → M[q]? = L[q]?
  st : SG W0 hb g cap M wr
  kp : Kp g w wr
theorem Rd.on {W0 : World} {hb g cap n k : Nat} {L M : List It} {w wr w1 : World} (h : Rd W0 hb g cap n L w k M wr) (hb1 : Below wr.heap.size wr w1) : Rd W0 hb g cap n L w k M w1 := ⟨h.kn, h.len, h.perm, h.dn, h.rest, h.st.on hb1, h.kp.trans (Kp.of hb1)⟩
theorem Rd.swap {W0 : World} {hb g cap n k j : Nat} {L M : List It} {w wr : World} {A J : It} (h : Rd W0 hb g cap n L w k M wr) (hA : M[k]? = some A) (hJ : M[j]? = some J) (hkn : k < n) (hjn : j < n) (hd : hp.DnI less (hp.sw M k j) j n) : Rd W0 hb g cap n L w j (hp.sw M k j) (rsw.S2 wr.drew g k j A J) := by
  obtain ⟨h1, h2⟩ := h.st.swap hA hJ
  exact ⟨.inl hjn, hp.sw_len.trans h.len, (hp.sw_perm hA hJ).trans h.perm, hd, fun q hq => by rw [hp.sw_else hA hJ (by omega) (by omega)]; exact h.rest q hq, h1, h.kp.trans h2⟩
/-- what is left when it is done -/
def Fin (W0 : World) (hb g cap n : Nat) (L : List It) (w w' : World) : Prop := ∃ M : List It, M.Perm L ∧ hp.Heap less M n ∧ (∀ q, n ≤ q → M[q]? = L[q]?) ∧ SG W0 hb g cap M w' ∧ Kp g w w'
theorem Rd.fin {W0 : World} {hb g cap n k : Nat} {L M : List It} {w wr : World} (h : Rd W0 hb g cap n L w k M wr) (hh : hp.Heap less M n) : Fin W0 hb g cap n L w wr := ⟨M, h.perm, hh, h.rest, h.st, h.kp⟩
/-- Less, asked through the interface -/
theorem ask {W0 : World} {hb g cap n k : Nat} {L M : List It} {w wr : World} (h : Rd W0 hb g cap n L w k M wr) {i j : Nat} {A B : It} (hi : M[i]? = some A) (hj : M[j]? = some B) :
    Calls Tryz.prog 159 #[.slice (some ⟨g, 0, none⟩) M.length cap, .int .i64 i, .int .i64 j] wr fun r w' => r = .returned (.bool (less A B)) ∧ Below wr.heap.size wr w' :=
  cor.less_run g M.length cap i j A B wr (List.getElem?_eq_some_iff.1 hi).1 (List.getElem?_eq_some_iff.1 hj).1 (h.st.row.at hi) (h.st.row.at hj) (h.st.fit hi) (h.st.fit hj)
theorem turn {W0 : World} {hb g cap n k : Nat} {L M : List It} {w wr : World} (h : Rd W0 hb g cap n L w k M wr) {i j : Nat} {A B : It} (hi : M[i]? = some A) (hj : M[j]? = some B) :
    Calls Tryz.prog 160 #[.slice (some ⟨g, 0, none⟩) M.length cap, .int .i64 i, .int .i64 j] wr fun r w' => r = .returned (.tuple #[]) ∧ w' = rsw.S2 wr.drew g i j A B := by
  obtain ⟨cur, c1, c2, c3, _⟩ := h.st.row
  exact rsw.swap_run g M.length cap i j cur A B wr (List.getElem?_eq_some_iff.1 hi).1 (List.getElem?_eq_some_iff.1 hj).1 (by omega) c1 (h.st.row.at hi) (h.st.row.at hj)
theorem getM {M : List It} {i : Nat} (h : i < M.length) : ∃ A, M[i]? = some A := ⟨_, List.getElem?_eq_getElem h⟩

set_option maxRecDepth 100000 in
set_option maxHeartbeats 2000000 in
theorem down_run (W0 : World) (hb g cap i n : Nat) (L : List It) (w : World) (hS : SG W0 hb g cap L w) (hin : i < n ∨ i = 0) (hnl : n ≤ L.length) (hl : L.length ≤ 100) (hD : hp.DnI less L i n) :
    Calls Tryz.prog 103 #[.iface 99 (.pointer (some ⟨hb, 0, none⟩)), .int .i64 i, .int .i64 n] w fun e w' => (∃ b : Bool, e = .returned (.bool b)) ∧ Fin W0 hb g cap n L w w' := by
  have HR0 : Hid (Rd W0 hb g cap n L w i L w) := ⟨hin, rfl, List.Perm.refl _, hD, fun _ _ => rfl, hS, Kp.refl _ _⟩
  have hn100 : n ≤ 100 := by omega
  have HNL : Hid (n ≤ L.length) := hnl
  clear hS hD hnl hl
  go_enter Tryz.func103, Tryz.ntmps103
  go_wp2
  go_loopw [7, 8, 9, 10] (fun x _ _ _ wr => ∃ (k : Nat) (M : List It), x = .int .i64 k ∧ k ≤ 100 ∧ Hid (Rd W0 hb g cap n L w k M wr)) (fun x _ _ _ _ => n - (intOf x).toNat)
  case atStart => exact ⟨i, L, rfl, by omega, HR0⟩
  case round =>
    obtain ⟨k, M, rfl, hk100, hrd⟩ := hrel
    by_cases h1 : 2 * k + 1 < n
    case neg =>
      have hf : Hid (Fin W0 hb g cap n L w wr) := hrd.out.fin (hp.down_end hrd.out.dn (hp.none_child h1))
      have c1 : (n : Int) ≤ 2 * (k : Int) + 1 := by omega
      clear h1
      go_wp2
      go_ret
      exact ⟨⟨_, rfl⟩, hf.out⟩
    case pos =>
      have hML : Hid (n ≤ M.length) := by unfold Hid; rw [hrd.out.len]; exact HNL.out
      obtain ⟨A, gA⟩ := getM (M := M) (i := k) (by have := hML.out; omega)
      have HA : Hid (M[k]? = some A) := gA
      obtain ⟨J1, g1⟩ := getM (M := M) (i := 2 * k + 1) (by have := hML.out; omega)
      have H1 : Hid (M[2 * k + 1]? = some J1) := g1
      clear gA g1
      have c1 : ¬ (n : Int) ≤ 2 * (k : Int) + 1 := by omega
      have c2 : ¬ 2 * (k : Int) + 1 < 0 := by omega
      have hbx : wr.cell? ⟨hb, 0, none⟩ = some (.slice (some ⟨g, 0, none⟩) M.length cap) := bcell hrd.out.st.box rfl
      have hm := meth_less ⟨hb, 0, none⟩ _ wr hbx
      by_cases h2 : 2 * k + 2 < n
      case pos =>
        obtain ⟨J2, g2⟩ := getM (M := M) (i := 2 * k + 2) (by have := hML.out; omega)
        have H2 : Hid (M[2 * k + 2]? = some J2) := g2
        clear g2
        have c3 : 2 * (k : Int) + 1 + 1 < (n : Int) := by omega
        have hask := ask hrd.out H2.out H1.out
        have e2 : ((2 * k + 2 : Nat) : Int) = 2 * (k : Int) + 1 + 1 := by omega
        have e1 : ((2 * k + 1 : Nat) : Int) = 2 * (k : Int) + 1 := by omega
        rw [e2, e1] at hask
        have HL2 : Hid (less J2 J1 = true → ∀ c, 0 < c → c < n → hp.P c = k → hp.Le less M (2 * k + 2) c) := fun h => hp.least_two ord H1.out H2.out h
        have HL1 : Hid (less J2 J1 = false → ∀ c, 0 < c → c < n → hp.P c = k → hp.Le less M (2 * k + 1) c) := fun h => hp.least_one ord H1.out (fun _ y hy => by rw [H2.out] at hy; cases hy; exact h)
        obtain ⟨b1, hb1⟩ : ∃ b, less J2 J1 = b := ⟨_, rfl⟩
        rw [hb1] at hask HL1 HL2
        clear hb1
        go_wp2_with (go_at_call 159; fail)
        refine hask.mono ?_
        rintro e w1 ⟨rfl, hbe1⟩
        have HR1 : Hid (Rd W0 hb g cap n L w k M w1) := hrd.out.on hbe1
        clear hask hm hbx hbe1 hrd
        cases b1 with
        | false =>
          have HLE : Hid (∀ c, 0 < c → c < n → hp.P c = k → hp.Le less M (2 * k + 1) c) := HL1.out rfl
          clear HL1 HL2 H2
          have eJ : ((2 * k + 1 : Nat) : Int) = 2 * (k : Int) + 1 := by omega
          have hbx1 : w1.cell? ⟨hb, 0, none⟩ = some (.slice (some ⟨g, 0, none⟩) M.length cap) := bcell HR1.out.st.box rfl
          have hm1 := meth_less ⟨hb, 0, none⟩ _ w1 hbx1
          have hask1 := ask HR1.out H1.out HA.out
          rw [eJ] at hask1
          have HD2 : Hid (less J1 A = true → hp.DnI less (hp.sw M k (2 * k + 1)) (2 * k + 1) n) := fun h => hp.down_step ord HA.out H1.out (by omega) (by omega) (hp.P_one k) HR1.out.dn h HLE.out
          have HD3 : Hid (less J1 A = false → hp.Heap less M n) := fun h => hp.down_end HR1.out.dn (hp.least_end ord H1.out HA.out h HLE.out)
          obtain ⟨b2, hb2⟩ : ∃ b, less J1 A = b := ⟨_, rfl⟩
          rw [hb2] at hask1 HD2 HD3
          clear hb2 HLE
          go_wp2_with (go_at_call 159; fail)
          refine hask1.mono ?_
          rintro e w2 ⟨rfl, hbe2⟩
          have HR2 : Hid (Rd W0 hb g cap n L w k M w2) := HR1.out.on hbe2
          clear hask1 hm1 hbx1 hbe2
          cases b2 with
          | false =>
            have hf : Hid (Fin W0 hb g cap n L w w2) := HR2.out.fin (HD3.out rfl)
            clear HD2 HD3
            go_wp2
            go_ret
            exact ⟨⟨_, rfl⟩, hf.out⟩
          | true =>
            have hbx2 : w2.cell? ⟨hb, 0, none⟩ = some (.slice (some ⟨g, 0, none⟩) M.length cap) := bcell HR2.out.st.box rfl
            have hm2 := meth_swap ⟨hb, 0, none⟩ _ w2 hbx2
            have hsw := turn HR2.out HA.out H1.out
            have HR3 : Hid (Rd W0 hb g cap n L w (2 * k + 1) (hp.sw M k (2 * k + 1)) (rsw.S2 w2.drew g k (2 * k + 1) A J1)) := HR2.out.swap HA.out H1.out (by omega) (by omega) (HD2.out rfl)
            obtain ⟨X, hX⟩ : ∃ X, rsw.S2 w2.drew g k (2 * k + 1) A J1 = X := ⟨_, rfl⟩
            rw [hX] at hsw HR3
            rw [eJ] at hsw
            clear hX HD2 HD3
            go_wp2_with (go_at_call 160; fail)
            refine hsw.mono ?_
            rintro e w3 ⟨rfl, rfl⟩
            clear hsw hm2 hbx2
            go_wp2
            go_roundw
            case rel => exact ⟨2 * k + 1, hp.sw M k (2 * k + 1), by rw [eJ], by omega, HR3⟩
            case measure => simp [intOf]; omega
        | true =>
          have HLE : Hid (∀ c, 0 < c → c < n → hp.P c = k → hp.Le less M (2 * k + 2) c) := HL2.out rfl
          clear HL1 HL2 H1
          have eJ : ((2 * k + 2 : Nat) : Int) = 2 * (k : Int) + 1 + 1 := by omega
          have hbx1 : w1.cell? ⟨hb, 0, none⟩ = some (.slice (some ⟨g, 0, none⟩) M.length cap) := bcell HR1.out.st.box rfl
          have hm1 := meth_less ⟨hb, 0, none⟩ _ w1 hbx1
          have hask1 := ask HR1.out H2.out HA.out
          rw [eJ] at hask1
          have HD2 : Hid (less J2 A = true → hp.DnI less (hp.sw M k (2 * k + 2)) (2 * k + 2) n) := fun h => hp.down_step ord HA.out H2.out (by omega) (by omega) (hp.P_two k) HR1.out.dn h HLE.out
          have HD3 : Hid (less J2 A = false → hp.Heap less M n) := fun h => hp.down_end HR1.out.dn (hp.least_end ord H2.out HA.out h HLE.out)
          obtain ⟨b2, hb2⟩ : ∃ b, less J2 A = b := ⟨_, rfl⟩
          rw [hb2] at hask1 HD2 HD3
          clear hb2 HLE
          go_wp2_with (go_at_call 159; fail)
          refine hask1.mono ?_
          rintro e w2 ⟨rfl, hbe2⟩
          have HR2 : Hid (Rd W0 hb g cap n L w k M w2) := HR1.out.on hbe2
          clear hask1 hm1 hbx1 hbe2
          cases b2 with
          | false =>
            have hf : Hid (Fin W0 hb g cap n L w w2) := HR2.out.fin (HD3.out rfl)
            clear HD2 HD3
            go_wp2
            go_ret
            exact ⟨⟨_, rfl⟩, hf.out⟩
          | true =>
            have hbx2 : w2.cell? ⟨hb, 0, none⟩ = some (.slice (some ⟨g, 0, none⟩) M.length cap) := bcell HR2.out.st.box rfl
            have hm2 := meth_swap ⟨hb, 0, none⟩ _ w2 hbx2
            have hsw := turn HR2.out HA.out H2.out
            have HR3 : Hid (Rd W0 hb g cap n L w (2 * k + 2) (hp.sw M k (2 * k + 2)) (rsw.S2 w2.drew g k (2 * k + 2) A J2)) := HR2.out.swap HA.out H2.out (by omega) (by omega) (HD2.out rfl)
            obtain ⟨X, hX⟩ : ∃ X, rsw.S2 w2.drew g k (2 * k + 2) A J2 = X := ⟨_, rfl⟩
            rw [hX] at hsw HR3
            rw [eJ] at hsw
            clear hX HD2 HD3
            go_wp2_with (go_at_call 160; fail)
            refine hsw.mono ?_
            rintro e w3 ⟨rfl, rfl⟩
            clear hsw hm2 hbx2
            go_wp2
            go_roundw
            case rel => exact ⟨2 * k + 2, hp.sw M k (2 * k + 2), by rw [eJ], by omega, HR3⟩
            case measure => simp [intOf]; omega
      case neg =>
        have c3 : ¬ 2 * (k : Int) + 1 + 1 < (n : Int) := by omega
        have HLE : Hid (∀ c, 0 < c → c < n → hp.P c = k → hp.Le less M (2 * k + 1) c) := hp.least_one ord H1.out (fun h => absurd h h2)
        clear hm hbx
        have eJ : ((2 * k + 1 : Nat) : Int) = 2 * (k : Int) + 1 := by omega
        have hbx1 : wr.cell? ⟨hb, 0, none⟩ = some (.slice (some ⟨g, 0, none⟩) M.length cap) := bcell hrd.out.st.box rfl
        have hm1 := meth_less ⟨hb, 0, none⟩ _ wr hbx1
        have hask1 := ask hrd.out H1.out HA.out
        rw [eJ] at hask1
        have HD2 : Hid (less J1 A = true → hp.DnI less (hp.sw M k (2 * k + 1)) (2 * k + 1) n) := fun h => hp.down_step ord HA.out H1.out (by omega) (by omega) (hp.P_one k) hrd.out.dn h HLE.out
        have HD3 : Hid (less J1 A = false → hp.Heap less M n) := fun h => hp.down_end hrd.out.dn (hp.least_end ord H1.out HA.out h HLE.out)
        obtain ⟨b2, hb2⟩ : ∃ b, less J1 A = b := ⟨_, rfl⟩
        rw [hb2] at hask1 HD2 HD3
        clear hb2 HLE
        go_wp2_with (go_at_call 159; fail)
        refine hask1.mono ?_
        rintro e w2 ⟨rfl, hbe2⟩
        have HR2 : Hid (Rd W0 hb g cap n L w k M w2) := hrd.out.on hbe2
        clear hask1 hm1 hbx1 hbe2
        cases b2 with
        | false =>
          have hf : Hid (Fin W0 hb g cap n L w w2) := HR2.out.fin (HD3.out rfl)
          clear HD2 HD3
          go_wp2
          go_ret
          exact ⟨⟨_, rfl⟩, hf.out⟩
        | true =>
          have hbx2 : w2.cell? ⟨hb, 0, none⟩ = some (.slice (some ⟨g, 0, none⟩) M.length cap) := bcell HR2.out.st.box rfl
          have hm2 := meth_swap ⟨hb, 0, none⟩ _ w2 hbx2
          have hsw := turn HR2.out HA.out H1.out
          have HR3 : Hid (Rd W0 hb g cap n L w (2 * k + 1) (hp.sw M k (2 * k + 1)) (rsw.S2 w2.drew g k (2 * k + 1) A J1)) := HR2.out.swap HA.out H1.out (by omega) (by omega) (HD2.out rfl)
          obtain ⟨X, hX⟩ : ∃ X, rsw.S2 w2.drew g k (2 * k + 1) A J1 = X := ⟨_, rfl⟩
          rw [hX] at hsw HR3
          rw [eJ] at hsw
          clear hX HD2 HD3
          go_wp2_with (go_at_call 160; fail)
          refine hsw.mono ?_
          rintro e w3 ⟨rfl, rfl⟩
          clear hsw hm2 hbx2
          go_wp2
          go_roundw
          case rel => exact ⟨2 * k + 1, hp.sw M k (2 * k + 1), by rw [eJ], by omega, HR3⟩
          case measure => simp [intOf]; omega
end Go.Proofs.YtoemkbooomgieaaGreatDoor.rdn

/- *h = append(*h, x) in one region that draws its order: the row behind it, and the box that holds it. -/
namespace Go.Proofs.YtoemkbooomgieaaGreatDoor.pap
open Go.ChangeShapes Go.WideShapes Go.ChangeAt Go.RowKit Go.Proofs.YtoemkbooomgieaaGreatDoor.fl
set_option linter.unusedVariables false

theorem add0 (g j : Nat) : (⟨g, 0, none⟩ : Addr).add j = ⟨g, j, none⟩ := by unfold Addr.add; split <;> simp_all
/-- what is drawn: the place of the new one, the row behind the append -/
structure G where
  h : Nat
  v1 : Value
/-- the world ahead, from where on what may be turned lies, the box and its type, the elements' type and cells, the row, how many, the cells, the new one's cells -/
structure Pm where
  W0 : World
  B : Nat
  hb : Nat
  TB : TypeId
  T : TypeId
  n : Nat
  v0 : Value
  k : Nat
  xs : List Value
  ms : List Value
structure Ok (p : Pm) : Prop where
  hB : p.B ≤ p.W0.heap.size
  hbB : p.B ≤ p.hb
  box : p.W0.heap[p.hb]? = some (.cells #[p.v0] p.TB (0, 0))
  own : p.W0.ownsRow p.B p.T p.n p.v0 p.k p.xs
  ne : p.v0.ownBlock ≠ some p.hb
structure D (p : Pm) (g : G) (cl cm cb ca cs : Bool) (W : World) : Prop where
  bel : Below p.B p.W0 W
  bel2 : ca = false → Below p.W0.heap.size p.W0 W
  box : W.heap[p.hb]? = some (.cells #[if cs = true then g.v1 else p.v0] p.TB (0, 0))
  atb : cb = true → cm = true ∧ (ca = false → W.heap[g.h]? = some (.cells p.ms.toArray p.T (0, 0)))
  ata : ca = true → cl = true ∧ cb = true ∧ W.ownsRow p.B p.T p.n g.v1 (p.k + 1) (p.xs ++ p.ms) ∧ g.v1.ownBlock ≠ some p.hb
  ats : cs = true → ca = true
/-- the numbers of the operations that count: the box read, the new one read, laid, appended, the box written -/
structure J where
  jl : Nat
  jm : Nat
  jb : Nat
  ja : Nat
  js : Nat
def J.ok (x : J) : Prop := x.jl ≠ x.jm ∧ x.jl ≠ x.jb ∧ x.jl ≠ x.ja ∧ x.jl ≠ x.js ∧ x.jm ≠ x.jb ∧ x.jm ≠ x.ja ∧ x.jm ≠ x.js ∧ x.jb ≠ x.ja ∧ x.jb ≠ x.js ∧ x.ja ≠ x.js
def C (p : Pm) (x : J) (g : G) (L : Nat → Bool) (W : World) : Prop := D p g (L x.jl) (L x.jm) (L x.jb) (L x.ja) (L x.js) W
theorem start {p : Pm} (O : Ok p) (x : J) (g : G) : C p x g (fun _ => false) p.W0.drew :=
  ⟨(Below.refl _ _).drew, fun _ => (Below.refl _ _).drew, O.box, fun h => (by cases h), fun h => (by cases h), fun h => (by cases h)⟩
theorem more_on (L : Nat → Bool) (i : Nat) : dn.more L i i = true := by unfold dn.more; rw [if_pos rfl]
theorem more_off (L : Nat → Bool) {i j : Nat} (h : j ≠ i) : dn.more L i j = L j := by unfold dn.more; rw [if_neg h]
section
variable {p : Pm} {x : J} {ws : G → List (Nat × Value)} {act : Act} {Q : Exit → Act → World → Prop} {o : Oper}
theorem quiet {i : Nat} (hi : i ≠ x.jl ∧ i ≠ x.jm ∧ i ≠ x.jb ∧ i ≠ x.ja ∧ i ≠ x.js) (hsel : ∀ cs b, o.op ≠ .select cs b) (u : Value) (hd : ∀ s d, o.dst = some d → (dk.sets act (ws s)).tmps[d]? = some u)
    (hrun : ∀ s (W : World), (execOp (dk.sets act (ws s)).eval o).run Tryz.prog W = .ok (.value u) W) : gh.Step Tryz.prog (fun s => dk.sets act (ws s)) (C p x) Q i o := by
  refine gh.step_val hsel fun s L W hdp h0 hC => ⟨s, u, gh.Agree.refl _ _, hd s, ?_⟩
  rw [hrun s W]
  refine ⟨rfl, ?_⟩
  obtain ⟨i0, i1, i2, i3, i4⟩ := hi
  unfold C
  rw [more_off L i0.symm, more_off L i1.symm, more_off L i2.symm, more_off L i3.symm, more_off L i4.symm]
  exact hC
theorem sl (hx : x.ok) {d : Nat} (hsel : ∀ cs b, o.op ≠ .select cs b) (hdst : o.dst = some d) (hd : ∀ s, (dk.sets act (ws s)).tmps[d]? = some p.v0)
    (hrun : ∀ s (W : World), W.heap[p.hb]? = some (.cells #[p.v0] p.TB (0, 0)) → (execOp (dk.sets act (ws s)).eval o).run Tryz.prog W = .ok (.value p.v0) W) : gh.Step Tryz.prog (fun s => dk.sets act (ws s)) (C p x) Q x.jl o := by
  refine gh.step_val hsel fun s L W hdp h0 hC => ⟨s, p.v0, gh.Agree.refl _ _, (fun d' hd' => by rw [hdst] at hd'; cases hd'; exact hd s), ?_⟩
  have hC' : D p s (L x.jl) (L x.jm) (L x.jb) (L x.ja) (L x.js) W := hC
  have na : L x.ja = false := by
    cases h : L x.ja with
    | false => rfl
    | true => have := (hC'.ata h).1; rw [h0] at this; cases this
  have ns : L x.js = false := by
    cases h : L x.js with
    | false => rfl
    | true => have := hC'.ats h; rw [na] at this; cases this
  have hb := hC'.box
  rw [ns] at hb
  rw [hrun s W hb]
  refine ⟨rfl, ?_⟩
  obtain ⟨x1, x2, x3, x4, _⟩ := hx
  unfold C
  rw [more_on, more_off L x1.symm, more_off L x2.symm, more_off L x3.symm, more_off L x4.symm]
  exact ⟨hC'.bel, hC'.bel2, hC'.box, hC'.atb, fun h => (by rw [na] at h; cases h), hC'.ats⟩
theorem sm (hx : x.ok) {d : Nat} (u : Value) (hsel : ∀ cs b, o.op ≠ .select cs b) (hdst : o.dst = some d) (hd : ∀ s, (dk.sets act (ws s)).tmps[d]? = some u)
    (hrun : ∀ s (W : World), Below p.W0.heap.size p.W0 W → (execOp (dk.sets act (ws s)).eval o).run Tryz.prog W = .ok (.value u) W) : gh.Step Tryz.prog (fun s => dk.sets act (ws s)) (C p x) Q x.jm o := by
  refine gh.step_val hsel fun s L W hdp h0 hC => ⟨s, u, gh.Agree.refl _ _, (fun d' hd' => by rw [hdst] at hd'; cases hd'; exact hd s), ?_⟩
  have hC' : D p s (L x.jl) (L x.jm) (L x.jb) (L x.ja) (L x.js) W := hC
  have nb : L x.jb = false := by
    cases h : L x.jb with
    | false => rfl
    | true => have := (hC'.atb h).1; rw [h0] at this; cases this
  have na : L x.ja = false := by
    cases h : L x.ja with
    | false => rfl
    | true => have := (hC'.ata h).2.1; rw [nb] at this; cases this
  rw [hrun s W (hC'.bel2 na)]
  refine ⟨rfl, ?_⟩
  obtain ⟨x1, _, _, _, x5, x6, x7, _⟩ := hx
  unfold C
  rw [more_on, more_off L x1, more_off L x5.symm, more_off L x6.symm, more_off L x7.symm]
  exact ⟨hC'.bel, hC'.bel2, hC'.box, fun h => (by rw [nb] at h; cases h), fun h => (by rw [na] at h; cases h), hC'.ats⟩
theorem sb (O : Ok p) (hx : x.ok) {d idx : Nat} (hsel : ∀ cs b, o.op ≠ .select cs b) (hdst : o.dst = some d) (hsz : d < act.tmps.size) (ld : ∀ g, (ws g).lookup d = some (.slice (some ⟨g.h, 0, none⟩) 1 1)) (hidx : ∀ g, ((ws g)[idx]?.map (·.1)) = some d) (hset : ∀ g (e : Nat), ws { g with h := e } = (ws g).set idx (d, .slice (some ⟨e, 0, none⟩) 1 1))
    (hrun : ∀ s (W : World), (execOp (dk.sets act (ws s)).eval o).run Tryz.prog W = .ok (.value (.slice (some ⟨W.heap.size, 0, none⟩) 1 1)) (W.alloc (.cells p.ms.toArray p.T))) (hdep : ∃ e ∈ o.after, Region.binds .any e = true ∧ e.on = x.jm) : gh.Step Tryz.prog (fun s => dk.sets act (ws s)) (C p x) Q x.jb o := by
  refine gh.step_val hsel fun s L W hdp h0 hC => ⟨{ s with h := W.heap.size }, .slice (some ⟨W.heap.size, 0, none⟩) 1 1, dk.agree_sets idx d _ hdst (hidx s) (hset s _), (fun d' hd => by rw [hdst] at hd; cases hd; exact dk.sets_on _ hsz _ (ld _)), ?_⟩
  have hC' : D p s (L x.jl) (L x.jm) (L x.jb) (L x.ja) (L x.js) W := hC
  obtain ⟨xp, mp, yp, zp⟩ := hdep
  have lm := hdp xp mp yp
  rw [zp] at lm
  have na : L x.ja = false := by
    cases h : L x.ja with
    | false => rfl
    | true => have := (hC'.ata h).2.1; rw [h0] at this; cases this
  have ns : L x.js = false := by
    cases h : L x.js with
    | false => rfl
    | true => have := hC'.ats h; rw [na] at this; cases this
  rw [hrun s W]
  refine ⟨rfl, ?_⟩
  obtain ⟨_, x2, _, _, x5, _, _, x8, x9, _⟩ := hx
  unfold C
  rw [more_on, more_off L x2, more_off L x5, more_off L x8.symm, more_off L x9.symm, lm, na, ns]
  have hb := hC'.box
  rw [ns] at hb
  have hsz2 := (hC'.bel2 na).size
  exact ⟨hC'.bel.alloc (Nat.le_trans O.hB hsz2) _, fun _ => (hC'.bel2 na).alloc hsz2 _, bold hb _, fun _ => ⟨rfl, fun _ => bnew W _ _⟩, fun h => (by cases h), fun h => (by cases h)⟩
theorem sa (O : Ok p) (hx : x.ok) {ST : TypeId} {i0 : TypeInfo} {z : Value} {bytes : Nat} (ht : Tryz.prog.underlying ST = some (.slice p.T)) (hi : Tryz.prog.info? p.T = some i0) (hz : i0.zero = some z) (hn : i0.size = p.n) (hby0 : i0.bytes = bytes) (hzs : z.cells.size = p.n) (hn0 : 0 < p.n)
    {s1 s2 d idx : Nat} (hop : o.op = .call { callee := .builtin .append, args := #[.tmp s1, .tmp s2], argTypes := #[ST, ST] }) (hdst : o.dst = some d) (hsz : d < act.tmps.size ∧ s1 < act.tmps.size ∧ s2 < act.tmps.size)
    (ld : ∀ g, (ws g).lookup d = some g.v1) (l1 : ∀ g, (ws g).lookup s1 = some p.v0) (l2 : ∀ g, (ws g).lookup s2 = some (.slice (some ⟨g.h, 0, none⟩) 1 1)) (hidx : ∀ g, ((ws g)[idx]?.map (·.1)) = some d) (hset : ∀ g (v : Value), ws { g with v1 := v } = (ws g).set idx (d, v))
    (hlen : p.ms.length = p.n) (h1c : ∀ u ∈ p.ms, u.oneCell' = true) (hk : p.k ≤ 1048576) (hby : (p.k + 1) * bytes ≤ 140737488355328)
    (hdep : ∃ e ∈ o.after, Region.binds .any e = true ∧ e.on = x.jl) (hdep2 : ∃ e ∈ o.after, Region.binds .any e = true ∧ e.on = x.jb) : gh.Step Tryz.prog (fun s => dk.sets act (ws s)) (C p x) Q x.ja o := by
  refine gh.step_val (by rw [hop]; simp) fun s L W hdp h0 hC => ?_
  have hC' : D p s (L x.jl) (L x.jm) (L x.jb) (L x.ja) (L x.js) W := hC
  obtain ⟨xp, mp, yp, zp⟩ := hdep
  have ll := hdp xp mp yp
  rw [zp] at ll
  obtain ⟨xq, mq, yq, zq⟩ := hdep2
  have lb := hdp xq mq yq
  rw [zq] at lb
  have ns : L x.js = false := by
    cases h : L x.js with
    | false => rfl
    | true => have := hC'.ats h; rw [h0] at this; cases this
  have hb2 := hC'.bel2 h0
  have hcell := (hC'.atb lb).2 h0
  have hown : W.ownsRow p.B p.T p.n p.v0 p.k p.xs := O.own.kept (row := none) ⟨hb2.os, hb2.tape, hb2.output, hb2.size, fun i hi _ => hb2.block i hi⟩ (by
    cases hv : p.v0.ownBlock with
    | none => exact .inl rfl
    | some g => right; simp)
  have hnews : ∀ j u, p.ms[j]? = some u → W.cell? ((⟨s.h, 0, none⟩ : Addr).add j) = some u := fun j u hu => by
    rw [add0]
    exact bcell hcell (by simpa using hu)
  have hbox := hC'.box
  rw [ns] at hbox
  have hblt := (Array.getElem?_eq_some_iff.1 hbox).1
  obtain ⟨v', w', hr, ho, hg, _, hat⟩ := run_append_own_at (P := Tryz.prog) W p.B ST o.type p.T i0 z p.n bytes ht hi hz hn hby0 hzs hn0 _ p.k p.xs hown ⟨s.h, 0, none⟩ 1 1 p.ms (by rw [hlen, Nat.one_mul]) hnews h1c (by unfold maxLen; omega) hby (Nat.le_trans O.hB hb2.size)
  refine ⟨{ s with v1 := v' }, v', dk.agree_sets idx d _ hdst (hidx s) (hset s _), (fun d' hd => by rw [hdst] at hd; cases hd; exact dk.sets_on _ hsz.1 _ (ld _)), ?_⟩
  have e1 : (dk.sets act (ws s)).eval (.tmp s1) = p.v0 := dk.eval_on _ _ hsz.2.1 (l1 s)
  have e2 : (dk.sets act (ws s)).eval (.tmp s2) = .slice (some ⟨s.h, 0, none⟩) 1 1 := dk.eval_on _ _ hsz.2.2 (l2 s)
  have hr2 : (execOp (dk.sets act (ws s)).eval o).run Tryz.prog W = .ok (.value v') w' := by
    unfold execOp
    simp only [hop, resolve, invoke, builtin, Sem.run_bind, Sem.run_pure, Result.andThen_ok, List.map_toArray, List.map_cons, List.map_nil, e1, e2, hr]
  rw [hr2]
  refine ⟨rfl, ?_⟩
  obtain ⟨_, _, x3, _, _, x6, _, x8, _, x10⟩ := hx
  unfold C
  rw [more_on, more_off L x3, more_off L x6, more_off L x8, more_off L x10.symm, ll, lb, ns]
  have hbel : Below p.B p.W0 w' := hC'.bel.grown hg (Nat.le_trans O.hB hb2.size) (fun b hb => (hown.lt b hb).1)
  have hbw : w'.heap[p.hb]? = some (.cells #[p.v0] p.TB (0, 0)) := (hg.block p.hb hblt (fun e => O.ne e.symm)).trans hbox
  have hne : v'.ownBlock ≠ some p.hb := by
    intro e
    rcases hat with ha | ha
    · rw [ha] at e; exact O.ne e
    · rw [ha] at e
      have := Option.some.inj e
      omega
  exact ⟨hbel, fun h => (by cases h), hbw, fun _ => ⟨(hC'.atb lb).1, fun h => (by cases h)⟩, fun _ => ⟨rfl, rfl, ho, hne⟩, fun h => (by cases h)⟩
theorem ss (O : Ok p) (hx : x.ok) (hdst : o.dst = none) (hsel : ∀ cs b, o.op ≠ .select cs b) (hrun : ∀ s (W : World) a m c, s.v1 = .slice a m c → W.heap[p.hb]? = some (.cells #[p.v0] p.TB (0, 0)) → (execOp (dk.sets act (ws s)).eval o).run Tryz.prog W = .ok .skip (W.setCell ⟨p.hb, 0, none⟩ (.slice a m c)))
    (hdep : ∃ e ∈ o.after, Region.binds .any e = true ∧ e.on = x.ja) : gh.Step Tryz.prog (fun s => dk.sets act (ws s)) (C p x) Q x.js o := by
  refine gh.step_val hsel fun s L W hdp h0 hC => ⟨s, undef, gh.Agree.refl _ _, (fun d hd => by rw [hdst] at hd; cases hd), ?_⟩
  have hC' : D p s (L x.jl) (L x.jm) (L x.jb) (L x.ja) (L x.js) W := hC
  obtain ⟨xp, mp, yp, zp⟩ := hdep
  have la := hdp xp mp yp
  rw [zp] at la
  have hb := hC'.box
  rw [h0] at hb
  obtain ⟨va, vm, vc, hv1⟩ : ∃ a m c, s.v1 = .slice a m c := by
    rcases (hC'.ata la).2.2.1.2 with ⟨h, _⟩ | ⟨g, cap, cur, h, _⟩
    · exact ⟨_, _, _, h⟩
    · exact ⟨_, _, _, h⟩
  rw [hrun s W va vm vc hv1 hb, ← hv1]
  refine ⟨rfl, ?_⟩
  obtain ⟨_, _, _, x4, _, _, x7, _, x9, x10⟩ := hx
  unfold C
  rw [more_on, more_off L x4, more_off L x7, more_off L x9, more_off L x10, la]
  obtain ⟨a1, a2, a3, a4⟩ := hC'.ata la
  refine ⟨hC'.bel.setCell (p := ⟨p.hb, 0, none⟩) O.hbB _, fun h => (by cases h), bset hb _ _, fun h => ⟨(hC'.atb h).1, fun h => (by cases h)⟩, fun _ => ⟨a1, a2, ?_, a4⟩, fun _ => rfl⟩
  refine ⟨a3.1, ?_⟩
  rcases a3.2 with h | ⟨g, cap, cur, e, q1, q2, q3⟩
  · exact .inl h
  · refine .inr ⟨g, cap, cur, e, q1, ?_, q3⟩
    rw [Below.heap_setCell W ⟨p.hb, 0, none⟩ _ g (fun e2 => a4 (by rw [e]; show some g = some p.hb; rw [e2]))]
    exact q2
theorem done {g : G} {L : Nat → Bool} {W : World} {N : Nat} (h : C p x g L W) (h1 : x.ja < N) (h2 : x.js < N) (hL : ∀ i, i < N → L i = true) : Below p.B p.W0 W ∧ W.heap[p.hb]? = some (.cells #[g.v1] p.TB (0, 0)) ∧ W.ownsRow p.B p.T p.n g.v1 (p.k + 1) (p.xs ++ p.ms) ∧ g.v1.ownBlock ≠ some p.hb := by
  have h' : D p g (L x.jl) (L x.jm) (L x.jb) (L x.ja) (L x.js) W := h
  have hb := h'.box
  rw [hL x.js h2] at hb
  obtain ⟨_, _, a3, a4⟩ := h'.ata (hL x.ja h1)
  exact ⟨h'.bel, hb, a3, a4⟩
end
end Go.Proofs.YtoemkbooomgieaaGreatDoor.pap

/- heap.Push over the runs: one more run in the heap. -/
namespace Go.Proofs.YtoemkbooomgieaaGreatDoor.rpu
open Go.ChangeShapes Go.WideShapes Go.ChangeAt Go.RowKit Go.Proofs.YtoemkbooomgieaaGreatDoor.fl Go.Proofs.YtoemkbooomgieaaGreatDoor.ri Go.Proofs.YtoemkbooomgieaaGreatDoor.rst
set_option linter.unusedVariables false

/-- a heap's box and its row, or no row yet -/
structure SN (W0 : World) (hb : Nat) (L : List It) (w : World) : Prop where
  bel : Below W0.heap.size W0 w
  hbB : W0.heap.size ≤ hb
  box : ∃ v, w.heap[hb]? = some (.cells #[v] 97 (0, 0)) ∧ w.ownsRow W0.heap.size 101 2 v L.length (L.flatMap cI) ∧ v.ownBlock ≠ some hb
  fits : ∀ r ∈ L, Fits W0 W0.heap.size r
theorem take_eq {cur : Array Value} {L : List It} (h : ∀ (i : Nat) (r : It), L[i]? = some r → ∀ (j : Nat) (v : Value), (cI r)[j]? = some v → cur[i * 2 + j]? = some v) (hs : L.length * 2 ≤ cur.size) : cur.toList.take (L.length * 2) = L.flatMap cI := by
  apply List.ext_getElem?
  intro j
  by_cases hj : j < L.length * 2
  · rw [List.getElem?_take_of_lt hj]
    have hj2 : j < (L.flatMap cI).length := by rw [flat_len cI_len]; exact hj
    obtain ⟨u, hu⟩ : ∃ u, (L.flatMap cI)[j]? = some u := ⟨_, List.getElem?_eq_getElem hj2⟩
    obtain ⟨i, e, r, k1, k2, k3⟩ := flat_get cI_len L j _ hu
    rw [hu]
    subst k3
    have := h i e k1 r _ k2
    simpa using this
  · rw [List.getElem?_eq_none (by rw [List.length_take]; omega), List.getElem?_eq_none (by rw [flat_len cI_len]; omega)]
theorem SN.of {W0 : World} {hb g cap : Nat} {L : List It} {w : World} (h : SG W0 hb g cap L w) : SN W0 hb L w := by
  obtain ⟨cur, h1, h2, h3, h4, h5⟩ := h.row
  refine ⟨h.bel, h.hbB, ⟨_, h.box, ⟨flat_len cI_len L, .inr ⟨g, cap, cur, rfl, h.gB, h1, h3, h4, h2, take_eq h5 (by omega)⟩⟩, ?_⟩, h.fits⟩
  intro e
  exact h.ne (Option.some.inj e)
/-- its row, where there is one -/
theorem SN.sg {W0 : World} {hb : Nat} {L : List It} {w : World} (h : SN W0 hb L w) (h0 : L ≠ []) : ∃ g cap, SG W0 hb g cap L w := by
  obtain ⟨v, hv, ⟨_, ⟨rfl, hn⟩ | ⟨g, cap, cur, rfl, h1, h2, h3, h4, h5, h6⟩⟩, hne⟩ := h.box
  · exact absurd (List.eq_nil_of_length_eq_zero hn) h0
  · refine ⟨g, cap, h.bel, h.hbB, h1, fun e => hne (by rw [e]; rfl), hv, ⟨cur, h2, h5, h3, h4, fun i r hr j v hv => ?_⟩, h.fits⟩
    have hf := flat_at cI_len L i r hr j v hv
    rw [← h6] at hf
    have hlt := (List.getElem?_eq_some_iff.1 hf).1
    rw [List.length_take] at hlt
    rw [List.getElem?_take_of_lt (by omega)] at hf
    simpa using hf
theorem infoR : (Tryz.prog.info? 101).map (fun i => (i.zero, i.size, i.bytes)) = some (some (.agg #[.slice none 0 0, .int .i64 0]), 2, 32) := by kernel_rfl

def J0 : pap.J := ⟨3, 4, 5, 6, 8⟩
theorem J0_ok : J0.ok := by unfold pap.J.ok J0; decide
def ws (hb n : Nat) (v : Value) (r : It) (g : pap.G) : List (Nat × Value) :=
  [(12, .pointer (some ⟨hb, 0, none⟩)), (13, .pointer (some ⟨hb, 0, none⟩)), (14, .pointer (some ⟨hb, 0, none⟩)), (15, v), (16, .agg #[.slice (some ⟨r.b, r.o, none⟩) r.l.length r.c, .int .i64 r.p]), (17, .slice (some ⟨g.h, 0, none⟩) 1 1), (18, g.v1), (19, .pointer (some ⟨hb, 0, none⟩))]

set_option maxRecDepth 100000 in
set_option maxHeartbeats 1000000 in
theorem push_m (W0 : World) (hb : Nat) (L : List It) (r : It) (w : World) (hS : SN W0 hb L w) (hr : Fits W0 W0.heap.size r) (hl : L.length ≤ 50) :
    Calls Tryz.prog 165 #[.pointer (some ⟨hb, 0, none⟩), .iface 101 (.agg #[.slice (some ⟨r.b, r.o, none⟩) r.l.length r.c, .int .i64 r.p])] w fun e w' => e = .returned (.tuple #[]) ∧ SN W0 hb (L ++ [r]) w' := by
  obtain ⟨i0, hi, hz0, hz1, hz2⟩ := info_parts infoR
  obtain ⟨v, hv, hown, hne⟩ := hS.box
  have hlt := (Array.getElem?_eq_some_iff.1 hv).1
  have hsz := hS.bel.size
  have c0 : w.cell? ⟨hb, 0, none⟩ = some v := bcell hv rfl
  have HV : Hid (w.heap[hb]? = some (.cells #[v] 97 (0, 0))) := hv
  have HS : Hid (SN W0 hb L w) := hS
  have HRF : Hid (Fits W0 W0.heap.size r) := hr
  have hta : ∀ W : World, (Instr.typeAssert (.iface 101 (.agg #[.slice (some ⟨r.b, r.o, none⟩) r.l.length r.c, .int .i64 r.p])) 20 101 true).run Tryz.prog W = .ok (.tuple #[.agg #[.slice (some ⟨r.b, r.o, none⟩) r.l.length r.c, .int .i64 r.p], .bool true]) W := fun W => by kernel_rfl
  have hal : Below w.heap.size w (w.alloc (.cells #[.slice (some ⟨r.b, r.o, none⟩) r.l.length r.c, .int .i64 r.p] 101)) := (Below.refl _ _).alloc (Nat.le_refl _) _
  have hA := bnew w #[.slice (some ⟨r.b, r.o, none⟩) r.l.length r.c, .int .i64 r.p] 101
  obtain ⟨X, hX⟩ : ∃ X, w.alloc (.cells #[.slice (some ⟨r.b, r.o, none⟩) r.l.length r.c, .int .i64 r.p] 101) = X := ⟨_, rfl⟩
  rw [hX] at hal hA
  have hXl := (Array.getElem?_eq_some_iff.1 hA).1
  have HA : Hid (X.heap[w.heap.size]? = some (.cells #[.slice (some ⟨r.b, r.o, none⟩) r.l.length r.c, .int .i64 r.p] 101 (0, 0))) := hA
  have O : pap.Ok ⟨X, W0.heap.size, hb, 97, 101, 2, v, L.length, L.flatMap cI, cI r⟩ := ⟨Nat.le_trans hsz hal.size, hS.hbB, bstay hv hal hlt, hown.kept (row := none) ⟨hal.os, hal.tape, hal.output, hal.size, fun i hi _ => hal.block i hi⟩ (by
    cases hv : v.ownBlock with
    | none => exact .inl rfl
    | some g => right; simp), hne⟩
  have HO : Hid (pap.Ok ⟨X, W0.heap.size, hb, 97, 101, 2, v, L.length, L.flatMap cI, cI r⟩) := O
  clear hv hS hr hA O hown hne
  go_enter Tryz.func165, Tryz.ntmps165
  go_wp2
  clear hX
  refine dk.region_gsets (ws hb w.heap.size v r) [12, 13, 14, 15, 16, 17, 18, 19] (pap.C ⟨X, W0.heap.size, hb, 97, 101, 2, v, L.length, L.flatMap cI, cI r⟩ J0) ⟨0, .slice none 0 0⟩ (by kernel_rfl) (by kernel_rfl) (fun _ => rfl) (by kernel_rfl) (pap.start HO.out _ _) ?each ?fin
  case each =>
    refine ⟨pap.quiet (by decide) (by simp) (.pointer (some ⟨hb, 0, none⟩)) (by rintro s _ ⟨⟩; exact dk.sets_on _ (by simp) _ rfl) (fun s W => by simp [execOp, go_sem, Act.eval, dk.sets_get, ws, List.lookup]), ?_⟩
    refine ⟨pap.quiet (by decide) (by simp) (.pointer (some ⟨hb, 0, none⟩)) (by rintro s _ ⟨⟩; exact dk.sets_on _ (by simp) _ rfl) (fun s W => by simp [execOp, go_sem, Act.eval, dk.sets_get, ws, List.lookup]), ?_⟩
    refine ⟨pap.quiet (by decide) (by simp) (.pointer (some ⟨hb, 0, none⟩)) (by rintro s _ ⟨⟩; exact dk.sets_on _ (by simp) _ rfl) (fun s W => by simp [execOp, go_sem, Act.eval, dk.sets_get, ws, List.lookup]), ?_⟩
    refine ⟨pap.sl (x := J0) (d := 15) J0_ok (by simp) rfl (fun s => dk.sets_on _ (by simp) _ rfl) (fun s W h => by have c : W.cell? ⟨hb, 0, none⟩ = some v := bcell h rfl; simp [execOp, go_sem, Act.eval, dk.sets_get, ws, List.lookup, c]), ?_⟩
    refine ⟨pap.sm (x := J0) (d := 16) J0_ok (.agg #[.slice (some ⟨r.b, r.o, none⟩) r.l.length r.c, .int .i64 r.p]) (by simp) rfl (fun s => dk.sets_on _ (by simp) _ rfl) (fun s W h => by have hh := bstay HA.out h hXl; have d0 : W.cell? ⟨w.heap.size, 0, none⟩ = some (.slice (some ⟨r.b, r.o, none⟩) r.l.length r.c) := bcell hh rfl; have d1 : W.cell? ⟨w.heap.size, 1, none⟩ = some (.int .i64 r.p) := bcell hh rfl; simp [execOp, go_sem, Act.eval, dk.sets_get, ws, List.lookup, d0, d1]), ?_⟩
    refine ⟨pap.sb (x := J0) (d := 17) (idx := 5) HO.out J0_ok (by simp) rfl (by simp) (fun g => rfl) (fun g => rfl) (fun g e => rfl) (fun s W => by simp [execOp, go_sem, Act.eval, dk.sets_get, ws, List.lookup, cI]) ⟨⟨4, .data⟩, by simp, rfl, rfl⟩, ?_⟩
    refine ⟨pap.sa (x := J0) (d := 18) (s1 := 15) (s2 := 17) (idx := 6) HO.out J0_ok Tryz.underlying97 hi hz0 hz1 hz2 rfl (by show 0 < 2; decide) rfl rfl ⟨by simp, by simp, by simp⟩ (fun g => rfl) (fun g => rfl) (fun g => rfl) (fun g => rfl) (fun g v => rfl) rfl (by intro u hu; simp [cI] at hu; rcases hu with rfl | rfl <;> rfl) (by show L.length ≤ 1048576; omega) (by show (L.length + 1) * 32 ≤ 140737488355328; omega) ⟨⟨3, .data⟩, by simp, rfl, rfl⟩ ⟨⟨5, .data⟩, by simp, rfl, rfl⟩, ?_⟩
    refine ⟨pap.quiet (by decide) (by simp) (.pointer (some ⟨hb, 0, none⟩)) (by rintro s _ ⟨⟩; exact dk.sets_on _ (by simp) _ rfl) (fun s W => by simp [execOp, go_sem, Act.eval, dk.sets_get, ws, List.lookup]), ?_⟩
    exact ⟨pap.ss (x := J0) HO.out J0_ok rfl (by simp) (fun s W a m c' hv1 h => by have c : W.cell? ⟨hb, 0, none⟩ = some v := bcell h rfl; have f : W.frozen? ⟨hb, 0, none⟩ = false := bfree h 0; simp [execOp, go_sem, Act.eval, dk.sets_get, ws, List.lookup, c, f, hv1]) ⟨⟨6, .data⟩, by simp, rfl, rfl⟩, trivial⟩
  case fin =>
    intro s K W hK hC
    obtain ⟨d1, d2, d3, d4⟩ := pap.done hC (N := 9) (by decide) (by decide) hK
    have hsn : Hid (SN W0 hb (L ++ [r]) W) := by
      refine ⟨HS.out.bel.trans ((hal.mono hsz).trans d1), HS.out.hbB, ⟨s.v1, d2, ?_, d4⟩, fun q hq => ?_⟩
      · rw [List.length_append, List.flatMap_append]
        simpa using d3
      · rcases List.mem_append.1 hq with h | h
        · exact HS.out.fits q h
        · simp at h; subst h; exact HRF.out
    clear hC hK d1 d2 d3 d4
    simp only [dk.sets, ws]
    go_wp2
    go_end0
    exact ⟨rfl, hsn.out⟩
end Go.Proofs.YtoemkbooomgieaaGreatDoor.rpu
