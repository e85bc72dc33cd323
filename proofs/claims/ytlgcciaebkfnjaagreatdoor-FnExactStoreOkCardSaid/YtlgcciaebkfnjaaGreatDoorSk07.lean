/- TableGet, of the specification and of the program: the newest value of a key; new memory alone. -/
import Derived.Test.YtlgcciaebkfnjaaGreatDoorTabOk
import Derived.Test.YtlgcciaebkfnjaaGreatDoorSk05
import Derived.Test.YtlgcciaebkfnjaaGreatDoorSk06
import Derived.Maps.AppendAt
import Derived.Deep.DeepAppendWide
import Derived.Shelf.LaysM
import Derived.Shelf.Strconv.Clone
import Derived.Test.YtlgcciaebkfnjaaGreatDoorRows
import Derived.WalkKit

/- layersOf: the pairs that are being written and the runs, in one list; slices.Concat and slices.Grow at such lists. -/
namespace Go.Proofs.YtlgcciaebkfnjaaGreatDoor.ly
open Go.ChangeShapes Go.WideShapes Go.ChangeAt Go.RowKit Go.Proofs.YtlgcciaebkfnjaaGreatDoor.fl Go.Proofs.YtlgcciaebkfnjaaGreatDoor.rn
set_option linter.unusedVariables false

theorem run_zeros_nil {P : Program} (w : World) (t u ty e : TypeId) (i : TypeInfo) (z : Value) (ht : P.underlying t = some (.slice e)) (hu : P.underlying u = some (.int .i64)) (hi : P.info? e = some i) (hz : i.zero = some z)
    (n : Nat) (hn0 : n * i.size ≠ 0) (h63 : ((n : Nat) : Int) ≤ 9223372036854775807) (hby : ((n : Int) * (i.bytes : Int)) ≤ 281474976710656) (hfit : Builtin.nextslicecap n 0 * i.bytes ≤ 281474976710656) :
    (Builtin.append_ #[t, u] ty #[.slice none 0 0, .int .i64 n]).run P w =
      .ok (.slice (some ⟨w.heap.size, 0, none⟩) n (grownCap w n 0 e))
        (w.drew.alloc (.cells (Builtin.zeroCells z.cells n ++ Builtin.zeroCells z.cells (grownCap w n 0 e - n)) e)) := by
  have hn : ¬ (n = 0) := fun e => hn0 (by rw [e]; simp)
  have h63' : ¬ (9223372036854775807 < (n : Int)) := by omega
  have h48' : ¬ (281474976710656 < Builtin.nextslicecap n 0 * i.bytes) := by omega
  have hby' : ¬ (281474976710656 < ((n : Int) * (i.bytes : Int))) := by omega
  have hw := az.wrap_nat (n := n) (by omega)
  have hn1 : ¬ ((n : Int) < 0) := by omega
  simp [Builtin.append_, run_underlying ht, run_underlying hu, sizeOf, typeInfo, zeroValue, hi, hz, asInt, asIntOf, hw, hn, hn1, hby', h63', h48', hn0, Question.forced, newRow, grownCap, Builtin.firstCells]
theorem infoR : ∃ i0, Tryz.prog.info? 24 = some i0 ∧ i0.zero = some (.slice none 0 0) ∧ i0.size = 1 ∧ i0.bytes = 24 := by
  have h := rn.info
  cases hh : Tryz.prog.info? 24 with
  | none => rw [hh] at h; cases h
  | some i => rw [hh] at h; simp at h; exact ⟨i, rfl, h.1, h.2.1, h.2.2⟩
set_option maxRecDepth 100000 in
theorem grow_nil (n : Nat) (w : World) (h1 : 1 ≤ n) (hn : n ≤ 2000000) :
    Calls Tryz.prog 155 #[.slice none 0 0, .int .i64 n] w fun e w' => ∃ c, e = .returned (.slice (some ⟨w.heap.size, 0, none⟩) 0 c) ∧ w'.ownsRow w.heap.size 24 1 (.slice (some ⟨w.heap.size, 0, none⟩) 0 c) 0 [] ∧ Below w.heap.size w w' := by
  obtain ⟨i0, hi, hz0, hz1, hz2⟩ := infoR
  have hz := fun ty => run_zeros_nil (P := Tryz.prog) w 25 3 ty 24 i0 _ Tryz.underlying25 Tryz.underlying3 hi hz0 n (by rw [hz1]; omega) (by omega) (by rw [hz2]; omega) (by rw [hz2]; exact growslice_fits_wide (by omega) (by omega))
  have hG1 := grownCap_ge w n 0 24
  have hG2 := grownCap_le_maxLen w n 0 24 (by unfold maxLen; omega)
  obtain ⟨G, hG⟩ : ∃ G, grownCap w n 0 24 = G := ⟨_, rfl⟩
  rw [hG] at hz hG1 hG2
  have i1 : decide ((0 : Int) < (n : Int)) = true := by simp; omega
  have hsz : (Builtin.zeroCells #[Value.slice none 0 0] n ++ Builtin.zeroCells #[Value.slice none 0 0] (G - n)).size = G * 1 := by simp [size_zeroCells]; omega
  have hz : ∀ ty, (Builtin.append_ #[25, 3] ty #[.slice none 0 0, .int .i64 n]).run Tryz.prog w = .ok (.slice (some ⟨w.heap.size, 0, none⟩) n G) (w.drew.alloc (.cells (Builtin.zeroCells #[Value.slice none 0 0] n ++ Builtin.zeroCells #[Value.slice none 0 0] (G - n)) 24)) := hz
  obtain ⟨zc, hzc⟩ : ∃ zc, Builtin.zeroCells #[Value.slice none 0 0] n ++ Builtin.zeroCells #[Value.slice none 0 0] (G - n) = zc := ⟨_, rfl⟩
  rw [hzc] at hz hsz
  clear hzc hG
  go_enter Tryz.func155, Tryz.ntmps155
  go_wp2_with (at_builtin; refine cpr.wpList_append_run rfl _ _ 25 3 rfl _ _ _ rfl rfl (hz _) ?_)
  go_ret
  refine ⟨G, rfl, ⟨by simp, .inr ⟨w.heap.size, G, zc, rfl, Nat.le_refl _, bnew w zc 24, Nat.zero_le _, hG2, hsz, by simp⟩⟩, ?_⟩
  exact ((Below.refl _ _).alloc (Nat.le_refl _) _).drew

theorem newsR {w : World} {q : Addr} {rs : List Rn} (h : Row cR 1 w w.heap.size (some q) rs) : ∀ (j : Nat) (u : Value), (rs.flatMap cR)[j]? = some u → w.cell? (q.add j) = some u := fun j u hu => by
  obtain ⟨i, e, r, h1, h2, rfl⟩ := flat_get cR_len rs j u hu
  rcases h with rfl | ⟨b, off, hq, hlt, hc⟩
  · simp at h1
  · cases hq
    have := hc i e h1 r u h2
    rw [show (⟨b, off, none⟩ : Addr).add (i * 1 + r) = ⟨b, off + i * 1 + r, none⟩ by unfold Addr.add; split <;> simp_all [Nat.add_assoc]]
    exact this
theorem oneR (rs : List Rn) : ∀ u ∈ rs.flatMap cR, u.oneCell' = true := fun u hu => by
  obtain ⟨e, _, he⟩ := List.mem_flatMap.1 hu
  simp [cR] at he
  subst he
  rfl
theorem form_pos {W : World} {B n s : Nat} {U : TypeId} {v : Value} {xs : List Value} (h : W.ownsRow B U s v n xs) (hn : 0 < n) : ∃ g cap, v = .slice (some ⟨g, 0, none⟩) n cap := by
  obtain ⟨_, ⟨_, h0⟩ | ⟨g, cap, cur, rfl, _⟩⟩ := h
  · omega
  · exact ⟨g, cap, rfl⟩
set_option maxRecDepth 100000 in
set_option maxHeartbeats 1000000 in
theorem concat (ys : List flP.Pr) (rs : List Rn) (ya : Option Addr) (q : Addr) (yc rc n5 n8 : Nat) (w : World) (hrl : rs.length ≤ 1048576) (hR : Row cR 1 w w.heap.size (some q) rs) (h5 : w.heap[n5]? = some (.cells #[.slice ya ys.length yc] 24 (0, 0))) (h8 : w.heap[n8]? = some (.cells #[.slice (some ⟨n5, 0, none⟩) 1 1, .slice (some q) rs.length rc] 25 (0, 0))) :
    Calls Tryz.prog 122 #[.slice (some ⟨n8, 0, none⟩) 2 2] w fun e w' => ∃ g c, e = .returned (.slice (some ⟨g, 0, none⟩) (rs.length + 1) c) ∧ w'.ownsRow w.heap.size 24 1 (.slice (some ⟨g, 0, none⟩) (rs.length + 1) c) (rs.length + 1) ((⟨ya, yc, ys⟩ :: rs : List Rn).flatMap cR) ∧ Below w.heap.size w w' := by
  obtain ⟨i0, hi, hz0, hz1, hz2⟩ := infoR
  have x0 : w.cell? ⟨n8, 0, none⟩ = some (.slice (some ⟨n5, 0, none⟩) 1 1) := bcell h8 rfl
  have x1 : w.cell? ⟨n8, 1, none⟩ = some (.slice (some q) rs.length rc) := bcell h8 rfl
  have hgr := grow_nil (rs.length + 1) w (by omega) (by omega)
  have e1 : ((rs.length + 1 : Nat) : Int) = 1 + (rs.length : Int) := by omega
  rw [e1] at hgr
  clear e1
  have HR : Hid (Row cR 1 w w.heap.size (some q) rs) := hR
  have H5 : Hid (w.heap[n5]? = some (.cells #[.slice ya ys.length yc] 24 (0, 0))) := h5
  have H8 : Hid (w.heap[n8]? = some (.cells #[.slice (some ⟨n5, 0, none⟩) 1 1, .slice (some q) rs.length rc] 25 (0, 0))) := h8
  clear hR h5 h8
  go_enter Tryz.func122, Tryz.ntmps122
  go_wp2
  refine wp_loop_rounds 3 ?_
  rw [rounds_succ]
  go_wp2
  rw [rounds_succ]
  go_wp2
  rw [rounds_succ]
  go_wp2_with (go_at_call 155; fail)
  refine hgr.mono ?_
  rintro e w1 ⟨c, rfl, ho1, hb1⟩
  have y0 : w1.cell? ⟨n8, 0, none⟩ = some (.slice (some ⟨n5, 0, none⟩) 1 1) := bcell (bstay H8.out hb1 (Array.getElem?_eq_some_iff.1 H8.out).1) rfl
  have m0 : w1.cell? ⟨n5, 0, none⟩ = some (.slice ya ys.length yc) := bcell (bstay H5.out hb1 (Array.getElem?_eq_some_iff.1 H5.out).1) rfl
  have hn1 : ∀ (j : Nat) (u : Value), [Value.slice ya ys.length yc][j]? = some u → w1.cell? ((⟨n5, 0, none⟩ : Addr).add j) = some u := fun j u hu => by
    match j, hu with
    | 0, hu => cases hu; simpa [Addr.add] using m0
    | j + 1, hu => simp at hu
  have HO1 : Hid (w1.ownsRow w.heap.size 24 1 (.slice (some ⟨w.heap.size, 0, none⟩) 0 c) 0 []) := ho1
  have hs1 := hb1.size
  clear hgr ho1 x0 x1
  go_wp2
  refine wp_loop_rounds 3 ?_
  rw [rounds_succ]
  go_wp2_with (at_builtin; refine wpList_append_own _ rfl _ _ 25 rfl w.heap.size 24 i0 (.slice none 0 0) 1 24 Tryz.underlying25 hi hz0 hz1 hz2 rfl (by decide) _ 0 [] rfl (by exact HO1.out) ⟨n5, 0, none⟩ 1 1 [Value.slice ya ys.length yc] rfl rfl (by exact hn1) (by intro u hu; simp at hu; subst hu; rfl) (by unfold maxLen; omega) (by omega) (by omega) ?_)
  intro v2 w2 hown2 hgrow2 _
  obtain ⟨g2, c2, rfl⟩ := form_pos hown2 (by omega)
  have hb2 : Below w.heap.size w w2 := hb1.grown hgrow2 hs1 (fun b hb => (HO1.out.lt b hb).1)
  have y1 : w2.cell? ⟨n8, 1, none⟩ = some (.slice (some q) rs.length rc) := bcell (bstay H8.out hb2 (Array.getElem?_eq_some_iff.1 H8.out).1) rfl
  have HO2 : Hid (w2.ownsRow w.heap.size 24 1 (.slice (some ⟨g2, 0, none⟩) 1 c2) 1 [Value.slice ya ys.length yc]) := hown2
  have HN2 : Hid (Row cR 1 w2 w2.heap.size (some q) rs) := HR.out.inn hb2
  have hs2 := hb2.size
  clear hown2 hgrow2 y0 m0 hn1 HO1
  go_wp2
  rw [rounds_succ]
  go_wp2_with (at_builtin; refine wpList_append_own _ rfl _ _ 25 rfl w.heap.size 24 i0 (.slice none 0 0) 1 24 Tryz.underlying25 hi hz0 hz1 hz2 rfl (by decide) _ 1 [Value.slice ya ys.length yc] rfl (by exact HO2.out) q rs.length rc (rs.flatMap cR) rfl (flat_len cR_len rs) (by exact newsR HN2.out) (oneR rs) (by unfold maxLen; omega) (by omega) (by omega) ?_)
  intro v3 w3 hown3 hgrow3 _
  obtain ⟨g3, c3, rfl⟩ := form_pos hown3 (by omega)
  have hb3 : Below w.heap.size w w3 := hb2.grown hgrow3 hs2 (fun b hb => (HO2.out.lt b hb).1)
  rw [show 1 + rs.length = rs.length + 1 by omega] at hown3 ⊢
  have HO3 : Hid (w3.ownsRow w.heap.size 24 1 (.slice (some ⟨g3, 0, none⟩) (rs.length + 1) c3) (rs.length + 1) ((⟨ya, yc, ys⟩ :: rs : List Rn).flatMap cR)) := hown3
  clear hown3 hgrow3 y1 HO2 HN2
  go_wp2
  rw [rounds_succ]
  go_wp2
  go_ret
  exact ⟨g3, c3, rfl, HO3.out, hb3⟩

set_option maxRecDepth 100000 in
theorem layers (ys : List flP.Pr) (rs : List Rn) (ya : Option Addr) (q : Addr) (yc rc : Nat) (w : World) (F : tb.Fit ys rs) (hY : Row flP.c 3 w w.heap.size ya ys) (hR : VR w w.heap.size (some q) rs) :
    Calls Tryz.prog 82 #[.agg #[.slice ya ys.length yc, .slice (some q) rs.length rc]] w fun e w' => ∃ g c, e = .returned (.slice (some ⟨g, 0, none⟩) (rs.length + 1) c) ∧ VR w' w'.heap.size (some ⟨g, 0, none⟩) (⟨ya, yc, ys⟩ :: rs) ∧ Below w.heap.size w w' := by
  have hA := bold (bold (bnew w #[.slice ya ys.length yc, .slice (some q) rs.length rc] 27) (.cells #[.slice ya ys.length yc] 24)) (.cells #[.slice (some ⟨w.heap.size + 1, 0, none⟩) 1 1, .slice (some q) rs.length rc] 25)
  have h5 := bold (bnew (w.alloc (.cells #[.slice ya ys.length yc, .slice (some q) rs.length rc] 27)) #[.slice ya ys.length yc] 24) (.cells #[.slice (some ⟨w.heap.size + 1, 0, none⟩) 1 1, .slice (some q) rs.length rc] 25)
  have h8 := bnew ((w.alloc (.cells #[.slice ya ys.length yc, .slice (some q) rs.length rc] 27)).alloc (.cells #[.slice ya ys.length yc] 24)) #[.slice (some ⟨w.heap.size + 1, 0, none⟩) 1 1, .slice (some q) rs.length rc] 25
  have hb : Below w.heap.size w (((w.alloc (.cells #[.slice ya ys.length yc, .slice (some q) rs.length rc] 27)).alloc (.cells #[.slice ya ys.length yc] 24)).alloc (.cells #[.slice (some ⟨w.heap.size + 1, 0, none⟩) 1 1, .slice (some q) rs.length rc] 25)) := (((Below.refl _ _).alloc (Nat.le_refl _) _).alloc (by simp) _).alloc (by simp; omega) _
  rw [World.size_alloc] at h5
  rw [World.size_alloc, World.size_alloc] at h8
  have hc := concat ys rs ya q yc rc (w.heap.size + 1) (w.heap.size + 1 + 1) _ F.rl (hR.1.inn hb) h5 h8
  have HY : Hid (Row flP.c 3 w w.heap.size ya ys) := hY
  have HR : Hid (VR w w.heap.size (some q) rs) := hR
  clear hY hR h5 h8 hA
  go_enter Tryz.func82, Tryz.ntmps82
  go_wp2_with (go_at_call 122; fail)
  refine hc.mono ?_
  rintro e w1 ⟨g, c, rfl, ho, hb1⟩
  have hbw : Below w.heap.size w w1 := hb.trans (hb1.mono hb.size)
  have HO : Hid (Row cR 1 w1 w1.heap.size (some ⟨g, 0, none⟩) (⟨ya, yc, ys⟩ :: rs)) := by
    have ho' : w1.ownsRow _ 24 1 (.slice (some ⟨g, 0, none⟩) (rs.length + 1) c) (⟨ya, yc, ys⟩ :: rs : List Rn).length ((⟨ya, yc, ys⟩ :: rs : List Rn).flatMap cR) := ho
    obtain ⟨a, cap, hv, hr⟩ := own_row cR_len ho'
    cases hv
    exact hr
  clear hc ho
  go_wp2
  go_ret
  exact ⟨g, c, rfl, ⟨HO.out, fun r hr => by
    rcases List.mem_cons.1 hr with rfl | hr
    · exact HY.out.inn hbw
    · exact (HR.out.2 r hr).inn hbw⟩, hbw⟩
end Go.Proofs.YtlgcciaebkfnjaaGreatDoor.ly

/- strings.Clone hands back the same bytes and lays new memory alone: the library's contract for internal/stringslite.Clone, laid at this program. -/
namespace Go.Proofs.YtlgcciaebkfnjaaGreatDoor.cl
open Go.Shelf Go.RowKit
def ren : Go.Shelf.Ren := ⟨fun | 316 => 88 | n => n, fun | 9 => 9 | 3 => 3 | 4 => 4 | 37 => 22 | 0 => 0 | 127 => 148 | 5 => 5 | n => n, fun | n => n⟩
theorem laid : Go.Proofs.LaysM.n316 Tryz.prog ren := {
  mixed := by kernel_rfl
  f316 := Tryz.func88.trans (congrArg some (by kernel_rfl))
  t0 := Tryz.underlying0
  a0 := Tryz.isAgg0
  z0 := Tryz.sizeOf0
  v0 := Tryz.zeroValue0
  t3 := Tryz.underlying3
  a3 := Tryz.isAgg3
  z3 := Tryz.sizeOf3
  v3 := Tryz.zeroValue3
  t4 := Tryz.underlying4
  a4 := Tryz.isAgg4
  z4 := Tryz.sizeOf4
  v4 := Tryz.zeroValue4
  t9 := Tryz.underlying9
  a9 := Tryz.isAgg9
  z9 := Tryz.sizeOf9
  v9 := Tryz.zeroValue9
  t37 := Tryz.underlying22
  a37 := Tryz.isAgg22
  z37 := Tryz.sizeOf22
  v37 := Tryz.zeroValue22
  t127 := Tryz.underlying148
  a127 := Tryz.isAgg148
  z127 := Tryz.sizeOf148
  v127 := Tryz.zeroValue148
  t5 := Tryz.underlying5
  a5 := Tryz.isAgg5
  z5 := Tryz.sizeOf5
  v5 := Tryz.zeroValue5
  i0 := by kernel_rfl
  i3 := by kernel_rfl
  i4 := by kernel_rfl
  i5 := by kernel_rfl
  i9 := by kernel_rfl
  i37 := by kernel_rfl
  i127 := by kernel_rfl }
theorem lite (s : ByteArray) (w : World) (hlim : s.size ≤ 281474976710656) :
    Calls Tryz.prog 88 #[.string s] w fun e w' => e = .returned (.string s) ∧ Below w.heap.size w w' := Any.stringslite_Clone laid s w hlim

theorem clone (s : ByteArray) (w : World) (hlim : s.size ≤ 281474976710656) :
    Calls Tryz.prog 50 #[.string s] w fun e w' => e = .returned (.string s) ∧ Below w.heap.size w w' := by
  go_enter Tryz.func50, Tryz.ntmps50
  go_wp2_with (go_at_call 88; refine (lite s w hlim).mono ?_; rintro e w1 ⟨rfl, hb1⟩)
  go_ret
  exact ⟨rfl, hb1⟩
end Go.Proofs.YtlgcciaebkfnjaaGreatDoor.cl

/- TableGet, of the specification and of the program: the newest value of a key; new memory alone. -/
namespace Go.Proofs.YtlgcciaebkfnjaaGreatDoor.tgi
open Go.ChangeShapes Go.WideShapes Go.ChangeAt Go.RowKit Go.Proofs.YtlgcciaebkfnjaaGreatDoor.fl Go.Proofs.YtlgcciaebkfnjaaGreatDoor.rn Go.Proofs.YtlgcciaebkfnjaaGreatDoor.rc Go.Proofs.YtlgcciaebkfnjaaGreatDoor.ro Go.Proofs.YtlgcciaebkfnjaaGreatDoor.tk Go.Proofs.YtlgcciaebkfnjaaGreatDoor.pf Go.Proofs.YtlgcciaebkfnjaaGreatDoor.tko Go.Proofs.YtlgcciaebkfnjaaGreatDoor.tg
set_option linter.unusedVariables false

noncomputable def getT (ys : List flP.Pr) (ls : List (List flP.Pr)) (key : ByteArray) : ByteArray × Bool :=
  if okB ys ls = true then (match nwst (ys :: ls) key with | some e => if e.g = true then (⟨#[]⟩, false) else (e.v, true) | none => (⟨#[]⟩, false)) else (⟨#[]⟩, false)
noncomputable def getV (ys : List flP.Pr) (ls : List (List flP.Pr)) (key : ByteArray) : ByteArray := (getT ys ls key).1
noncomputable def getO (ys : List flP.Pr) (ls : List (List flP.Pr)) (key : ByteArray) : Bool := (getT ys ls key).2
section
variable {ys : List flP.Pr} {ls : List (List flP.Pr)} {key : ByteArray} {e : flP.Pr}
theorem get_bad (h : okB ys ls = false) : getV ys ls key = ⟨#[]⟩ ∧ getO ys ls key = false := by unfold getV getO getT; rw [h]; exact ⟨rfl, rfl⟩
theorem get_none (h : nwst (ys :: ls) key = none) : getV ys ls key = ⟨#[]⟩ ∧ getO ys ls key = false := by
  unfold getV getO getT
  rw [h]
  split <;> exact ⟨rfl, rfl⟩
theorem get_gone (h : nwst (ys :: ls) key = some e) (hg : e.g = true) : getV ys ls key = ⟨#[]⟩ ∧ getO ys ls key = false := by
  unfold getV getO getT
  rw [h]
  simp only [hg, if_true]
  split <;> exact ⟨rfl, rfl⟩
theorem get_there (ho : okB ys ls = true) (h : nwst (ys :: ls) key = some e) (hg : e.g = false) : getV ys ls key = e.v ∧ getO ys ls key = true := by
  unfold getV getO getT
  rw [h, if_pos ho]
  simp [hg]
end

set_option maxRecDepth 100000 in
set_option maxHeartbeats 1000000 in
theorem spec_get (ys : List flP.Pr) (rs : List Rn) (ya ra : Option Addr) (yc rc : Nat) (key : ByteArray) (w : World) (F : tb.Fit ys rs) (hkey : key.size ≤ 1048576) (hY : Row flP.c 3 w w.heap.size ya ys) (hR : VR w w.heap.size ra rs) :
    Calls Tryz.prog 47 #[.agg #[.slice ya ys.length yc, .slice ra rs.length rc], .string key] w fun r w' => r = .returned (.tuple #[.string (getV ys (rs.map (·.l)) key), .bool (getO ys (rs.map (·.l)) key)]) ∧ Below w.heap.size w w' := by
  have hb : Below w.heap.size w (w.alloc (.cells #[.slice ya ys.length yc, .slice ra rs.length rc] 27)) := (Below.refl _ _).alloc (Nat.le_refl _) _
  have hA := bnew w #[.slice ya ys.length yc, .slice ra rs.length rc] 27
  obtain ⟨W, hW⟩ : ∃ W, w.alloc (.cells #[.slice ya ys.length yc, .slice ra rs.length rc] 27) = W := ⟨_, rfl⟩
  rw [hW] at hb hA
  have la := (Array.getElem?_eq_some_iff.1 hA).1
  have HA : Hid (W.heap[w.heap.size]? = some (.cells #[.slice ya ys.length yc, .slice ra rs.length rc] 27 (0, 0))) := hA
  have HY : Hid (Row flP.c 3 W W.heap.size ya ys) := hY.inn hb
  have HR : Hid (VR W W.heap.size ra rs) := hR.inn hb
  have HF : Hid (tb.Fit ys rs) := F
  have hnw := spec_newest ys rs ya ra yc rc key W F HY.out HR.out
  have x0 : W.cell? ⟨w.heap.size, 0, none⟩ = some (.slice ya ys.length yc) := bcell hA rfl
  have x1 : W.cell? ⟨w.heap.size, 1, none⟩ = some (.slice ra rs.length rc) := bcell hA rfl
  obtain ⟨GV, hGV⟩ : ∃ GV, getV ys (rs.map (·.l)) key = GV := ⟨_, rfl⟩
  obtain ⟨GO, hGO⟩ : ∃ GO, getO ys (rs.map (·.l)) key = GO := ⟨_, rfl⟩
  have HGV : Hid (getV ys (rs.map (·.l)) key = GV) := hGV
  have HGO : Hid (getO ys (rs.map (·.l)) key = GO) := hGO
  simp only [hGV, hGO]
  clear hY hR hA F hGV hGO
  cases hnv : nwst (ys :: rs.map (·.l)) key with
  | none =>
    rw [hnv] at hnw
    obtain ⟨g1, g2⟩ := get_none hnv
    obtain rfl : GV = ⟨#[]⟩ := HGV.out.symm.trans g1
    obtain rfl : GO = false := HGO.out.symm.trans g2
    clear g1 g2 HGV HGO
    go_enter Tryz.func47, Tryz.ntmps47
    go_wp2_with (go_at_call 85; fail)
    clear hW
    refine hnw.mono ?_
    rintro e w1 ⟨rfl, hb1⟩
    have hbw : Below w.heap.size w (w1.alloc (.cells #[.string ⟨#[]⟩, .string ⟨#[]⟩, .bool false] 49)) := (hb.trans (hb1.mono hb.size)).alloc (by have := hb.size; have := hb1.size; omega) _
    clear hnw x0 x1
    simp only [Option.getD_none, Option.isSome_none, p0]
    go_wp2
    go_ret2
    exact ⟨rfl, hbw⟩
  | some e =>
    rw [hnv] at hnw
    obtain ⟨ek, ev, eg⟩ := e
    cases eg with
    | true =>
      obtain ⟨g1, g2⟩ := get_gone hnv rfl
      obtain rfl : GV = ⟨#[]⟩ := HGV.out.symm.trans g1
      obtain rfl : GO = false := HGO.out.symm.trans g2
      clear g1 g2 HGV HGO
      go_enter Tryz.func47, Tryz.ntmps47
      go_wp2_with (go_at_call 85; fail)
      clear hW
      refine hnw.mono ?_
      rintro e w1 ⟨rfl, hb1⟩
      have hbw : Below w.heap.size w (w1.alloc (.cells #[.string ek, .string ev, .bool true] 49)) := (hb.trans (hb1.mono hb.size)).alloc (by have := hb.size; have := hb1.size; omega) _
      clear hnw x0 x1
      simp only [Option.getD_some, Option.isSome_some]
      go_wp2
      go_ret2
      exact ⟨rfl, hbw⟩
    | false =>
      have HNV : Hid (nwst (ys :: rs.map (·.l)) key = some ⟨ek, ev, false⟩) := hnv
      go_enter Tryz.func47, Tryz.ntmps47
      go_wp2_with (go_at_call 85; fail)
      clear hW
      refine hnw.mono ?_
      rintro e w1 ⟨rfl, hb1⟩
      have hal : Below w1.heap.size w1 (w1.alloc (.cells #[.string ek, .string ev, .bool false] 49)) := (Below.refl _ _).alloc (Nat.le_refl _) _
      have hbx : Below W.heap.size W (w1.alloc (.cells #[.string ek, .string ev, .bool false] 49)) := hb1.trans (hal.mono hb1.size)
      have hp := bnew w1 #[.string ek, .string ev, .bool false] 49
      have lp := (Array.getElem?_eq_some_iff.1 hp).1
      have HP : Hid ((w1.alloc (.cells #[.string ek, .string ev, .bool false] 49)).heap[w1.heap.size]? = some (.cells #[.string ek, .string ev, .bool false] 49 (0, 0))) := hp
      have y0 : w1.cell? ⟨w.heap.size, 0, none⟩ = some (.slice ya ys.length yc) := bcell (bstay HA.out hb1 la) rfl
      have y1 : w1.cell? ⟨w.heap.size, 1, none⟩ = some (.slice ra rs.length rc) := bcell (bstay HA.out hb1 la) rfl
      have l1 : w.heap.size < w1.heap.size := Nat.lt_of_lt_of_le la hb1.size
      have hok := spec_okb ys rs ya ra yc rc (w1.alloc (.cells #[.string ek, .string ev, .bool false] 49)) HF.out (HY.out.inn hbx) (HR.out.inn hbx)
      clear hnw x0 x1 hal hp hnv
      simp only [Option.getD_some, Option.isSome_some]
      go_wp2_with (go_at_call 59; fail)
      refine hok.mono ?_
      rintro e w2 ⟨rfl, hb2⟩
      have hbw : Below w.heap.size w w2 := hb.trans ((hbx.trans (hb2.mono hbx.size)).mono hb.size)
      have s1 : w2.cell? ⟨w1.heap.size, 1, none⟩ = some (.string ev) := bcell (bstay HP.out hb2 lp) rfl
      clear hok y0 y1
      cases hob : okB ys (rs.map (·.l)) with
      | false =>
        obtain ⟨g1, g2⟩ := get_bad (key := key) hob
        obtain rfl : GV = ⟨#[]⟩ := HGV.out.symm.trans g1
        obtain rfl : GO = false := HGO.out.symm.trans g2
        clear g1 g2 HGV HGO hob
        go_wp2
        go_ret2
        exact ⟨rfl, hbw⟩
      | true =>
        obtain ⟨g1, g2⟩ := get_there hob HNV.out rfl
        have hgv : GV = ev := HGV.out.symm.trans g1
        obtain rfl : GO = true := HGO.out.symm.trans g2
        subst hgv
        clear g1 g2 HGV HGO hob
        go_wp2
        go_ret2
        exact ⟨rfl, hbw⟩

set_option maxRecDepth 100000 in
set_option maxHeartbeats 1000000 in
theorem search_pair (l : List flP.Pr) (a : Option Addr) (c : Nat) (nx nk : ByteArray) (nq : Bool) (w : World) (hl : l.length ≤ 1048576) (hS : Row flP.c 3 w w.heap.size a l) (hM : MonP l ⟨nx, nk, nq⟩) :
    Calls Tryz.prog 83 #[.slice a l.length c, .agg #[.string nx, .string nk, .bool nq], .func (.func 84) #[] #[]] w fun r w' => (∃ (p : Nat) (b : Bool), r = .returned (.tuple #[.int .i64 p, .bool b]) ∧ PosP l ⟨nx, nk, nq⟩ p ∧ (b = true ↔ ∃ a, l[p]? = some a ∧ cmpP a ⟨nx, nk, nq⟩ = 0)) ∧ Below w.heap.size w w' := by
  rcases hS with rfl | ⟨b, off, rfl, hlt, hc⟩
  · have hb : Below w.heap.size w (w.alloc (.cells #[.string nx, .string nk, .bool nq] 49)) := (Below.refl _ _).alloc (Nat.le_refl _) _
    obtain ⟨W, hW⟩ : ∃ W, w.alloc (.cells #[.string nx, .string nk, .bool nq] 49) = W := ⟨_, rfl⟩
    rw [hW] at hb
    clear hM
    go_enter Tryz.func83, Tryz.ntmps83
    go_wp2
    clear hW
    refine wp_loop_rounds 1 ?_
    rw [rounds_succ]
    go_wp2
    refine qi.region_in W (qi.T.refl W) (by kernel_rfl) (by kernel_rfl) ?_
    repeat (go_big_quiet_step (first | (go_at_call 84; fail)))
    refine wpQuiet_nil ?_
    rintro _ ⟨N, rfl⟩
    have hN := N.h
    generalize N.x = wN at hN ⊢
    clear N
    go_wp2
    go_ret2
    exact ⟨⟨0, false, rfl, ⟨Nat.le_refl _, fun i a h => by omega, fun i a _ h => by simp at h⟩, by simp⟩, hb.trans (Below.mono hN hb.size)⟩
  · exact search_off l b off c nx nk nq w hl (rp_row hlt hc) hM

set_option maxRecDepth 100000 in
set_option maxHeartbeats 2000000 in
theorem impl_get (ys : List flP.Pr) (rs : List Rn) (ya ra : Option Addr) (yc rc : Nat) (key : ByteArray) (w : World) (F : tb.Fit ys rs) (hkey : key.size ≤ 1048576) (hY : Row flP.c 3 w w.heap.size ya ys) (hR : VR w w.heap.size ra rs) (hra : ra.isSome = true := by rfl) :
    Calls Tryz.prog 46 #[.agg #[.slice ya ys.length yc, .slice ra rs.length rc], .string key] w fun r w' => r = .returned (.tuple #[.string (getV ys (rs.map (·.l)) key), .bool (getO ys (rs.map (·.l)) key)]) ∧ Below w.heap.size w w' := by
  obtain ⟨q, rfl⟩ : ∃ q, ra = some q := Option.isSome_iff_exists.1 hra
  have hb : Below w.heap.size w (w.alloc (.cells #[.slice ya ys.length yc, .slice (some q) rs.length rc] 27)) := (Below.refl _ _).alloc (Nat.le_refl _) _
  have hA := bnew w #[.slice ya ys.length yc, .slice (some q) rs.length rc] 27
  obtain ⟨W, hW⟩ : ∃ W, w.alloc (.cells #[.slice ya ys.length yc, .slice (some q) rs.length rc] 27) = W := ⟨_, rfl⟩
  rw [hW] at hb hA
  have la := (Array.getElem?_eq_some_iff.1 hA).1
  have HA : Hid (W.heap[w.heap.size]? = some (.cells #[.slice ya ys.length yc, .slice (some q) rs.length rc] 27 (0, 0))) := hA
  have HY : Hid (Row flP.c 3 W W.heap.size ya ys) := hY.inn hb
  have HR : Hid (VR W W.heap.size (some q) rs) := hR.inn hb
  have HF : Hid (tb.Fit ys rs) := F
  have hok := impl_okb ys rs ya (some q) yc rc W F HY.out HR.out
  have x0 : W.cell? ⟨w.heap.size, 0, none⟩ = some (.slice ya ys.length yc) := bcell hA rfl
  have x1 : W.cell? ⟨w.heap.size, 1, none⟩ = some (.slice (some q) rs.length rc) := bcell hA rfl
  obtain ⟨GV, hGV⟩ : ∃ GV, getV ys (rs.map (·.l)) key = GV := ⟨_, rfl⟩
  obtain ⟨GO, hGO⟩ : ∃ GO, getO ys (rs.map (·.l)) key = GO := ⟨_, rfl⟩
  have HGV : Hid (getV ys (rs.map (·.l)) key = GV) := hGV
  have HGO : Hid (getO ys (rs.map (·.l)) key = GO) := hGO
  simp only [hGV, hGO]
  clear hY hR hA F hGV hGO hra
  go_enter Tryz.func46, Tryz.ntmps46
  go_wp2_with (go_at_call 57; fail)
  clear hW x0 x1
  refine hok.mono ?_
  rintro e w1 ⟨rfl, hb1⟩
  have hbw1 : Below w.heap.size w w1 := hb.trans (hb1.mono hb.size)
  clear hok
  cases hob : okB ys (rs.map (·.l)) with
  | false =>
    obtain ⟨g1, g2⟩ := get_bad (key := key) hob
    obtain rfl : GV = ⟨#[]⟩ := HGV.out.symm.trans g1
    obtain rfl : GO = false := HGO.out.symm.trans g2
    clear g1 g2 HGV HGO hob
    go_wp2
    go_ret2
    exact ⟨rfl, hbw1⟩
  | true =>
    have hly := ly.layers ys rs ya q yc rc w1 HF.out (HY.out.inn hb1) (HR.out.inn hb1)
    have x0 : w1.cell? ⟨w.heap.size, 0, none⟩ = some (.slice ya ys.length yc) := bcell (bstay HA.out hb1 la) rfl
    have x1 : w1.cell? ⟨w.heap.size, 1, none⟩ = some (.slice (some q) rs.length rc) := bcell (bstay HA.out hb1 la) rfl
    have HOB : Hid (okB ys (rs.map (·.l)) = true) := hob
    have HOT : Hid (OkT ys (rs.map (·.l))) := okB_true.1 hob
    obtain ⟨L, hL⟩ : ∃ L, (⟨ya, yc, ys⟩ :: rs : List Rn) = L := ⟨_, rfl⟩
    have hLl : L.length = rs.length + 1 := by rw [← hL]; rfl
    have HLM : Hid (L.map (·.l) = ys :: rs.map (·.l)) := by unfold Hid; rw [← hL]; rfl
    have HLF : Hid (∀ r ∈ L, r.l.length ≤ 1048576 ∧ OkL r.l ∧ ∀ e ∈ r.l, e.k.size ≤ 1048576 ∧ e.v.size ≤ 1048576) := fun r hr => by
      rw [← hL] at hr
      rcases List.mem_cons.1 hr with rfl | hr
      · exact ⟨HF.out.yl, HOT.out.yo, HF.out.yo⟩
      · obtain ⟨i, hi⟩ := List.getElem?_of_mem hr
        exact ⟨(HF.out.ro r hr).1, HOT.out.ro i _ (map_at hi), (HF.out.ro r hr).2⟩
    rw [hL, ← hLl] at hly
    have hll : L.length ≤ 1048577 := by have := HF.out.rl; omega
    clear hob hL
    go_wp2_with (go_at_call 82; fail)
    refine hly.mono ?_
    rintro e w2 ⟨g, c, rfl, hvr, hb2⟩
    have hbw2 : Below w.heap.size w w2 := hbw1.trans (hb2.mono hbw1.size)
    have HVR : Hid (VR w2 w2.heap.size (some ⟨g, 0, none⟩) L) := hvr
    clear hly hvr x0 x1 hLl
    go_wp2
    go_loopw [7, 8, 9, 16] (fun _ _ _ v wr => ∃ k : Nat, k ≤ L.length ∧ v = .int .i64 k ∧ Hid (∀ (i : Nat) r, i < k → L[i]? = some r → fnd r.l key = none) ∧ Below w2.heap.size w2 wr) (fun _ _ _ v _ => L.length - (intOf v).toNat)
    case atStart => exact ⟨0, Nat.zero_le _, rfl, fun i r h => by omega, Below.refl _ _⟩
    case round =>
      obtain ⟨k, hk, rfl, hno, hbel⟩ := hrel
      have hbs := hbel.size
      by_cases hkl : k < L.length
      · rcases HVR.out.1 with h0 | ⟨b, off, hq, hlt, hc⟩
        · rw [h0] at hkl; simp at hkl
        cases hq
        have HG : Hid (L[k]? = some L[k]) := List.getElem?_eq_getElem hkl
        have hrow := (HVR.out.2 L[k] (List.getElem_mem hkl)).inn hbel
        have hlf := HLF.out L[k] (List.getElem_mem hkl)
        obtain ⟨⟨qa, qc, ql⟩, he⟩ : ∃ e, L[k] = e := ⟨_, rfl⟩
        rw [he] at HG hrow hlf
        obtain ⟨hl1, hl2, hl3⟩ := hlf
        have c0 : wr.cell? ⟨g, k, none⟩ = some (.slice qa ql.length qc) := (hbel.cell (p := ⟨g, k, none⟩) hlt).trans (by have := hc k _ HG.out 0 _ rfl; simpa using this)
        have hsr := search_pair ql qa qc key ⟨#[]⟩ false wr hl1 hrow (up_mon hl2.up _)
        have HL2 : Hid (OkL ql) := hl2
        have HL3 : Hid (∀ e ∈ ql, e.k.size ≤ 1048576 ∧ e.v.size ≤ 1048576) := hl3
        have HROW : Hid (Row flP.c 3 wr wr.heap.size qa ql) := hrow
        have i2 : (k : Int) < (L.length : Int) := by omega
        clear hc he hrow hl1 hl2 hl3
        go_wp2_with (go_at_call 83; fail)
        refine hsr.mono ?_
        rintro e w3 ⟨⟨p, bt, rfl, hp, hbt⟩, hb3⟩
        have hb23 : Below w2.heap.size w2 w3 := hbel.trans (hb3.mono hbs)
        have HFD : Hid ((∃ a, ql[p]? = some a ∧ cmpP a ⟨key, ⟨#[]⟩, false⟩ = 0) ↔ ∃ (i : Nat) (a : flP.Pr), ql[i]? = some a ∧ a.k = key) := found HL2.out.up hp
        have HBT : Hid (bt = true ↔ ∃ a, ql[p]? = some a ∧ cmpP a ⟨key, ⟨#[]⟩, false⟩ = 0) := hbt
        clear hsr c0 hp hbt
        cases bt with
        | true =>
          obtain ⟨a, ha, hz⟩ := HBT.out.1 rfl
          obtain ⟨ak, av, ag⟩ := a
          have hak : ak = key := cmp_zero.1 hz
          have hfnd : fnd ql key = some ⟨ak, av, ag⟩ := fnd_at (fun j f hj hf hfk => by
            have := (one_at HL2.out.up hf ha (hfk.trans hak.symm)).1
            omega) ha hak
          have hnw : nwst (ys :: rs.map (·.l)) key = some ⟨ak, av, ag⟩ := by
            rw [← HLM.out]
            unfold nwst
            rw [List.findSome?_eq_some_iff]
            refine ⟨(L.map (·.l)).take k, ql, (L.map (·.l)).drop (k + 1), ?_, hfnd, fun x hx => ?_⟩
            · have hlk : (L.map (·.l))[k]? = some ql := map_at HG.out
              obtain ⟨h1, h2⟩ := List.getElem?_eq_some_iff.1 hlk
              rw [← h2]
              exact (List.take_append_drop k _).symm.trans (by rw [List.drop_eq_getElem_cons h1])
            · obtain ⟨i, hi⟩ := List.getElem?_of_mem hx
              have hil := (List.getElem?_eq_some_iff.1 hi).1
              rw [List.length_take] at hil
              rw [List.getElem?_take_of_lt (by omega)] at hi
              obtain ⟨r, hr, hrl⟩ := at_map hi
              rw [← hrl]
              exact hno.out i r (by omega) hr
          have hpok := HL2.out.po p _ ha
          have hans : GV = av ∧ GO = !ag := by
            cases ag with
            | true =>
              obtain ⟨g1, g2⟩ := get_gone hnw rfl
              have hve : av = ⟨#[]⟩ := hpok.2.2.2 rfl
              exact ⟨(HGV.out.symm.trans g1).trans hve.symm, HGO.out.symm.trans g2⟩
            | false =>
              obtain ⟨g1, g2⟩ := get_there HOB.out hnw rfl
              exact ⟨HGV.out.symm.trans g1, HGO.out.symm.trans g2⟩
          obtain ⟨rfl, rfl⟩ := hans
          have hsz := (HL3.out _ (List.mem_of_getElem? ha)).2
          have hsz' : GV.size ≤ 1048576 := hsz
          have hpl : p < ql.length := (List.getElem?_eq_some_iff.1 ha).1
          have hpi : (p : Int) < (ql.length : Int) := by omega
          rcases (HROW.out.inn hb3) with h0 | ⟨b, off, rfl, hlt3, hc3⟩
          · rw [h0] at hpl; simp at hpl
          have c1 : w3.cell? ⟨b, off + p * 3 + 1, none⟩ = some (.string GV) := hc3 p _ ha 1 _ rfl
          have c2 : w3.cell? ⟨b, off + p * 3 + 2, none⟩ = some (.bool ag) := hc3 p _ ha 2 _ rfl
          have HC2 : Hid (∀ X, Below w3.heap.size w3 X → X.cell? ⟨b, off + p * 3 + 2, none⟩ = some (.bool ag)) := fun X h => (h.cell (p := ⟨b, off + p * 3 + 2, none⟩) hlt3).trans c2
          have hcl := fun W => cl.clone GV W (by omega)
          clear hc3 ha hz hak hfnd hnw hpok hsz HGV HGO HFD HBT
          go_wp2
          go_region_with (go_at_call 50; refine (hcl _).mono ?_; rintro e w4 ⟨rfl, hb4⟩; have hb4' : Below w3.heap.size w3 w4 := (Below.refl _ _).drew.trans hb4; have c3 := HC2.out w4 hb4')
          all_goals go_wp2
          all_goals go_ret2
          all_goals exact ⟨rfl, hbw2.trans ((hb23.trans (hb4'.mono hb23.size)).mono hbw2.size)⟩
        | false =>
          have hn2 : Hid (∀ (i : Nat) r, i < k + 1 → L[i]? = some r → fnd r.l key = none) := fun i r hi hr => by
            by_cases ei : i = k
            · subst ei
              rw [HG.out] at hr
              cases hr
              exact fnd_none (fun j f hf hfk => by
                have := HBT.out.2 (HFD.out.2 ⟨j, f, hf, hfk⟩)
                cases this)
            · exact hno.out i r (by omega) hr
          clear HFD HBT
          go_wp2
          go_roundw
          case rel => exact ⟨k + 1, by omega, by go_num, hn2, hb23⟩
          case measure => simp [intOf]; omega
      · obtain rfl : k = L.length := by omega
        have hnw : nwst (ys :: rs.map (·.l)) key = none := by
          rw [← HLM.out]
          unfold nwst
          rw [List.findSome?_eq_none_iff]
          intro x hx
          obtain ⟨i, hi⟩ := List.getElem?_of_mem hx
          obtain ⟨r, hr, hrl⟩ := at_map hi
          rw [← hrl]
          exact hno.out i r (List.getElem?_eq_some_iff.1 hr).1 hr
        obtain ⟨g1, g2⟩ := get_none hnw
        obtain rfl : GV = ⟨#[]⟩ := HGV.out.symm.trans g1
        obtain rfl : GO = false := HGO.out.symm.trans g2
        clear g1 g2 HGV HGO hnw hkl hk
        go_wp2
        go_ret2
        exact ⟨rfl, hbw2.trans (hbel.mono hbw2.size)⟩
end Go.Proofs.YtlgcciaebkfnjaaGreatDoor.tgi
