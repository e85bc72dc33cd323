/- The program's reader of a batch: what each of its methods takes, and that it fails by a panic with a fault of its own. -/
import Derived.Test.YtjnfljipomjcjaaGreatDoorRk08
import Derived.Test.YtjnfljipomjcjaaGreatDoorRk04
import Derived.Test.YtjnfljipomjcjaaGreatDoorRk05
import Derived.Test.YtjnfljipomjcjaaGreatDoorRk03
import Derived.Test.YtjnfljipomjcjaaGreatDoorRk07
import Derived.Deep.QuietTactic
import Derived.BigQuiet
import Derived.Deep.RegionWith

/- Batches that were read one behind the other, as they lie: a row of slices of its own, each batch in a row of its own. -/
namespace Go.Proofs.YtjnfljipomjcjaaGreatDoor.rcm
open Go.ChangeShapes Go.WideShapes Go.ChangeAt Go.RowKit Go.Proofs.YtjnfljipomjcjaaGreatDoor.fl Go.Proofs.YtjnfljipomjcjaaGreatDoor.fo Go.Proofs.YtjnfljipomjcjaaGreatDoor.rn Go.Proofs.YtjnfljipomjcjaaGreatDoor.mrR
set_option linter.unusedVariables false

structure RO (w W : World) (v : Value) (rs : List Rn) : Prop where
  bel : Below w.heap.size w W
  row : W.ownsRow w.heap.size 24 1 v rs.length (rs.flatMap cR)
  runs : ∀ r ∈ rs, MP W w.heap.size r.a r.l
  apart : Apart rs
section
variable {w W X Y : World} {v v' : Value} {rs : List Rn} {a : Option Addr} {c : Nat} {l : List flP.Pr}
theorem RO.on (h : RO w W v rs) (hb : Below W.heap.size W X) : RO w X v rs := ⟨h.bel.trans (hb.mono h.bel.size), gbs.own_on h.row hb, fun r hr => Mine.below (h.runs r hr) hb, h.apart⟩
theorem ty_ne {B g k : Nat} {cur : Array Value} (hm : MP W B a l) (hk : blk a l k) (hg : W.heap[g]? = some (.cells cur 24 (0, 0))) : k ≠ g := by
  rintro rfl
  rcases hm with rfl | ⟨g', off, rfl, hB, ho⟩
  · exact hk.1 rfl
  · obtain ⟨_, g2, off2, e, rfl⟩ := hk
    obtain ⟨cur', h1, _⟩ := ho.cells
    have e2 := Addr.mk.inj (Option.some.inj e)
    rw [e2.1, hg] at h1
    simp at h1
theorem RO.ne (h : RO w W v rs) {r : Rn} (hr : r ∈ rs) {k : Nat} (hk : blk r.a r.l k) : ¬ v.ownBlock = some k := by
  intro e
  obtain ⟨_, ⟨h1, _⟩ | ⟨g, cap, cur, h1, _, h3, _⟩⟩ := h.row
  · rw [h1] at e; cases e
  · rw [h1] at e
    have e2 : g = k := by simpa [Value.ownBlock] using e
    exact ty_ne (h.runs r hr) hk h3 e2.symm
theorem RO.more (h : RO w W v rs) (hb : Below W.heap.size W X) (hm : MP X W.heap.size a l) (hgr : X.grownBy Y v.ownBlock) (ho : Y.ownsRow w.heap.size 24 1 v' (rs.length + 1) (rs.flatMap cR ++ [.slice a l.length c])) : RO w Y v' (rs ++ [⟨a, c, l⟩]) := by
  have hX := h.on hb
  have hlt : ∀ k, v.ownBlock = some k → w.heap.size ≤ k ∧ k < W.heap.size := fun k hk => h.row.lt k hk
  have ht : Tn X Y (fun k => v.ownBlock = some k) := ⟨hgr.os, hgr.tape, hgr.output, hgr.size, fun k hk hne => hgr.block k hk (fun e => hne e.symm)⟩
  have hnew : ∀ k, blk a l k → W.heap.size ≤ k := fun k hk => (Mine.blk_le hm hk).1
  have hmY : MP Y W.heap.size a l := Mine.kept hm ht (fun k hk e => by have := hnew k hk; have := (hlt k e).2; omega)
  refine ⟨hX.bel.grown hgr hX.bel.size (fun k hk => (hlt k hk).1), ?_, fun r hr => ?_, ?_⟩
  · rw [List.length_append, List.length_singleton, List.flatMap_append]
    simpa [cR] using ho
  · rcases List.mem_append.1 hr with hr | hr
    · exact Mine.kept (hX.runs r hr) ht (fun k hk => hX.ne hr hk)
    · rw [List.mem_singleton.1 hr]
      rcases hmY with e | ⟨g, off, e, hB, hO⟩
      · exact .inl e
      · exact .inr ⟨g, off, e, Nat.le_trans h.bel.size hB, hO⟩
  · intro i j r s hi hj hij k hr hs
    have hil := (List.getElem?_eq_some_iff.1 hi).1
    have hjl := (List.getElem?_eq_some_iff.1 hj).1
    rw [List.length_append, List.length_singleton] at hil hjl
    by_cases e1 : i < rs.length
    · rw [List.getElem?_append_left e1] at hi
      by_cases e2 : j < rs.length
      · rw [List.getElem?_append_left e2] at hj
        exact h.apart i j r s hi hj hij k hr hs
      · obtain rfl : j = rs.length := by omega
        rw [List.getElem?_append_right (Nat.le_refl _)] at hj
        simp at hj
        subst hj
        have := (Mine.blk_le (h.runs r (List.mem_of_getElem? hi)) hr).2
        have := hnew k hs
        omega
    · obtain rfl : i = rs.length := by omega
      rw [List.getElem?_append_right (Nat.le_refl _)] at hi
      simp at hi
      subst hi
      have e2 : j < rs.length := by omega
      rw [List.getElem?_append_left e2] at hj
      have := (Mine.blk_le (h.runs s (List.mem_of_getElem? hj)) hs).2
      have := hnew k hr
      omega
theorem RO.vr (h : RO w W v rs) : ∃ a cap, v = .slice a rs.length cap ∧ VR W W.heap.size a rs ∧ ∀ g off, a = some ⟨g, off, none⟩ → ¬ bks rs g := by
  obtain ⟨a, cap, rfl, hr0⟩ := own_row cR_len h.row
  refine ⟨a, cap, rfl, ⟨hr0, fun r hr => Mine.row (h.runs r hr)⟩, fun g off e hb => ?_⟩
  obtain ⟨r, hr, hk⟩ := hb
  subst e
  obtain ⟨_, ⟨h1, _⟩ | ⟨g', cap', cur, h1, _, h3, _⟩⟩ := h.row
  · cases h1
  · have e2 := Value.slice.inj h1
    have e3 := Addr.mk.inj (Option.some.inj e2.1)
    rw [← e3.1] at h3
    exact ty_ne (h.runs r hr) hk h3 rfl
end
theorem info0 : (Tryz.prog.info? 24).map (fun i => (i.zero, i.size, i.bytes)) = some (some (.slice none 0 0), 1, 24) := by kernel_rfl
theorem infoR : ∃ i0, Tryz.prog.info? 24 = some i0 ∧ i0.zero = some (.slice none 0 0) ∧ i0.size = 1 ∧ i0.bytes = 24 := by
  have h := info0
  cases hh : Tryz.prog.info? 24 with
  | none => rw [hh] at h; cases h
  | some i => rw [hh] at h; simp at h; exact ⟨i, rfl, h.1, h.2.1, h.2.2⟩
/-- one batch more behind the others -/
theorem app_one {w W X : World} {v : Value} {rs : List Rn} {a : Option Addr} {c : Nat} {l : List flP.Pr} (h : RO w W v rs) (hb : Below W.heap.size W X) (hm : MP X W.heap.size a l) (hl : rs.length ≤ 100000) :
    ∃ v' Y, (Builtin.append_ #[27, 27] 27 #[v, .slice (some ⟨X.heap.size, 0, none⟩) 1 1]).run Tryz.prog (X.alloc (.cells #[.slice a l.length c] 24)) = .ok v' Y ∧ RO w Y v' (rs ++ [⟨a, c, l⟩]) := by
  obtain ⟨i0, hi, hz0, hz1, hz2⟩ := infoR
  have hal : Below X.heap.size X (X.alloc (.cells #[.slice a l.length c] 24)) := (Below.refl _ _).alloc (Nat.le_refl _) _
  have hb2 : Below W.heap.size W (X.alloc (.cells #[.slice a l.length c] 24)) := hb.trans (hal.mono hb.size)
  have hX := h.on hb2
  obtain ⟨v', Y, hr, ho, hgr, _, _⟩ := run_append_own_at (P := Tryz.prog) (X.alloc (.cells #[.slice a l.length c] 24)) w.heap.size 27 27 24 i0 (.slice none 0 0) 1 24 Tryz.underlying27 hi hz0 hz1 hz2 rfl (by decide) v rs.length (rs.flatMap cR) hX.row ⟨X.heap.size, 0, none⟩ 1 1 [.slice a l.length c] rfl (fun j u hu => by rw [gbs.cpadd]; exact bcell (bnew X _ _) (by simpa using hu)) (by intro u hu; simp at hu; subst hu; rfl) (by unfold maxLen; omega) (by omega) hX.bel.size
  exact ⟨v', Y, hr, h.more hb2 (Mine.below hm hal) hgr ho⟩
end Go.Proofs.YtjnfljipomjcjaaGreatDoor.rcm

/- The specification's Records. -/
namespace Go.Proofs.YtjnfljipomjcjaaGreatDoor.rcS
open Go.ChangeShapes Go.WideShapes Go.ChangeAt Go.RowKit Go.Proofs.YtjnfljipomjcjaaGreatDoor.fl Go.Proofs.YtjnfljipomjcjaaGreatDoor.fo Go.Proofs.YtjnfljipomjcjaaGreatDoor.rn Go.Proofs.YtjnfljipomjcjaaGreatDoor.mrR Go.Proofs.YtjnfljipomjcjaaGreatDoor.gbp Go.Proofs.YtjnfljipomjcjaaGreatDoor.rcp Go.Proofs.YtjnfljipomjcjaaGreatDoor.rcm
set_option linter.unusedVariables false

/-- what stands when some records are read -/
structure St (s : ByteArray) (w : World) (i : Int) (rs : List Rn) (v : Value) (W : World) : Prop where
  ro : RO w W v rs
  left : rcp.Left s (rs.map (·.l)) i
theorem St.lo {s : ByteArray} {w : World} {i : Int} {rs : List Rn} {v : Value} {W : World} (h : St s w i rs v W) : 0 ≤ i ∧ i ≤ s.size := ⟨by have := h.left.far; omega, h.left.hi⟩
theorem St.len {s : ByteArray} {w : World} {i : Int} {rs : List Rn} {v : Value} {W : World} (h : St s w i rs v W) (hs : s.size ≤ 200000) : rs.length ≤ 25000 := by
  have := left_len hs h.left
  rwa [List.length_map] at this
theorem St.fin {s : ByteArray} {w : World} {i : Int} {rs : List Rn} {v : Value} {W X : World} (h : St s w i rs v W) (hs : s.size ≤ 200000) (hr : isR s i = false) (hb : Below W.heap.size W X) : ∃ v', Ending.returned (.tuple #[v, .int .i64 i]) = .returned (.tuple #[v', .int .i64 (recs s).2]) ∧ ∃ rs' : List Rn, rs'.map (·.l) = (recs s).1 ∧ RO w X v' rs' := by
  rw [left_end hs h.left hr]
  exact ⟨v, rfl, rs, rfl, h.ro.on hb⟩
theorem St.next {s : ByteArray} {w : World} {i : Int} {rs : List Rn} {v v' : Value} {W Y : World} {a : Option Addr} {c : Nat} (h : St s w i rs v W) (hr : isR s i = true) (ho : RO w Y v' (rs ++ [⟨a, c, bat s i⟩])) : St s w (nxt s i) (rs ++ [⟨a, c, bat s i⟩]) v' Y := by
  refine ⟨ho, ?_⟩
  rw [List.map_append]
  exact left_yes h.left hr
theorem no_1 {s : ByteArray} {i : Int} (h : gi.okAt s i 4 = false) : isR s i = false := by unfold isR; rw [h]; rfl
theorem no_2 {s : ByteArray} {i : Int} (h : gl.here s (i + 4) = false) : isR s i = false := by unfold isR; rw [h]; simp
theorem no_3 {s : ByteArray} {i : Int} (h : gotB (gl.text s (i + 4)) = false) : isR s i = false := by unfold isR; rw [h]; simp
theorem no_4 {s : ByteArray} {i : Int} (h : gi.num s i 4 ≠ (cs.sum (gl.text s (i + 4)) : Int)) : isR s i = false := by unfold isR; simp [h]
theorem yes {s : ByteArray} {i : Int} (h1 : gi.okAt s i 4 = true) (h2 : gl.here s (i + 4) = true) (h3 : gotB (gl.text s (i + 4)) = true) (h4 : gi.num s i 4 = (cs.sum (gl.text s (i + 4)) : Int)) : isR s i = true := by unfold isR; simp [h1, h2, h3, h4]
theorem sum_lt (s : ByteArray) : cs.sum s ≤ 4294967295 := by
  unfold cs.sum
  have := Nat.xor_lt_two_pow (n := 32) (cs.st_lt s s.size) (show 4294967295 < 2 ^ 32 by decide)
  omega

set_option maxRecDepth 100000 in
set_option maxHeartbeats 2000000 in
theorem spec_recs (s : ByteArray) (w : World) (hs : s.size ≤ 1048576) :
    Calls Tryz.prog 7 #[.string s] w fun e w' => ∃ v, e = .returned (.tuple #[v, .int .i64 (recs s).2]) ∧ ∃ rs : List Rn, rs.map (·.l) = (recs s).1 ∧ RO w w' v rs := by
  have HR0 : Hid (RO w (w.alloc (.cells #[] 24)) (.slice (some ⟨w.heap.size, 0, none⟩) 0 0) []) := ⟨(Below.refl _ _).alloc (Nat.le_refl _) _, World.ownsRow_made w #[] 0 (Nat.le_refl _) (by unfold maxLen; omega) (by simp), fun r hr => by (cases hr), fun i j r s hi => by simp at hi⟩
  by_cases hbig : 200000 < s.size
  · have b1 : (0 : Int) < (s.size : Int) := by omega
    have b2 : ¬ (s.size : Int) ≤ 200000 := by omega
    go_enter Tryz.func7, Tryz.ntmps7
    go_wp2
    refine wp_loop_rounds 1 ?_
    rw [rounds_succ]
    go_wp2
    go_ret2
    rw [recs_big hbig]
    exact ⟨_, rfl, [], rfl, HR0.out⟩
  have hs2 : s.size ≤ 200000 := by omega
  have b2 : (s.size : Int) ≤ 200000 := by omega
  have HS0 : Hid (St s w 0 [] (.slice (some ⟨w.heap.size, 0, none⟩) 0 0) (w.alloc (.cells #[] 24))) := ⟨HR0.out, left_0 s⟩
  clear HR0 hbig
  go_enter Tryz.func7, Tryz.ntmps7
  go_wp2
  obtain ⟨W0, hW0⟩ : ∃ W0, w.alloc (.cells #[] 24) = W0 := ⟨_, rfl⟩
  rw [hW0] at HS0 ⊢
  clear hW0
  go_loopw [4, 5] (fun v y wr => ∃ (i : Int) (rs : List Rn), y = .int .i64 i ∧ Hid (St s w i rs v wr)) (fun _ y _ => s.size - (intOf y).toNat)
  case atStart => exact ⟨0, [], rfl, HS0⟩
  case round =>
    obtain ⟨i, rs, rfl, hst⟩ := hrel
    clear HS0
    obtain ⟨hlo, hhi⟩ := hst.out.lo
    have hlen := hst.out.len hs2
    by_cases hin : i < (s.size : Int)
    · have hgi := gi.spec_get s i 4 wr hs (by omega) (by omega)
      go_wp2_with (go_at_call 26; fail)
      refine hgi.mono ?_
      rintro e w1 ⟨rfl, hw1⟩
      obtain rfl := hw1.symm
      clear hgi
      cases ha : gi.okAt s i 4 with
      | false =>
        have h0 := gl.none s i ha
        rw [h0.1, h0.2]
        have HF := hst.out.fin hs2 (no_1 ha) (Below.refl _ _)
        go_wp2
        go_ret2
        exact HF
      | true =>
        have hA := at4 ha
        rw [stop4 ha]
        have hgl := gl.spec_getLong s (i + 4) wr hs (by omega) (by omega)
        have i4 : ¬ (i + 4 < 0) := by omega
        go_wp2_with (go_at_call 27; fail)
        refine hgl.mono ?_
        rintro e w2 ⟨rfl, hb2⟩
        clear hgl
        have hgb := gbs.spec_got (gl.text s (i + 4)) w2 (text_small hs).2
        go_wp2_with (go_at_call 12; fail)
        refine hgb.mono ?_
        rintro e w3 ⟨vb, rfl, hrow, hb3⟩
        have hb13 : Below wr.heap.size wr w3 := hb2.trans (hb3.mono hb2.size)
        clear hgb
        cases hh : gl.here s (i + 4) with
        | false =>
          have HF := hst.out.fin hs2 (no_2 hh) hb13
          rw [long_no hh]
          go_wp2
          go_ret2
          exact HF
        | true =>
          have hL := long_in hh
          have h5 : ¬ gl.behind s (i + 4) < 0 := by omega
          cases hg : gotB (gl.text s (i + 4)) with
          | false =>
            have HF := hst.out.fin hs2 (no_3 hg) hb13
            go_wp2
            go_ret2
            exact HF
          | true =>
            have hcs := cs.spec_sum (gl.text s (i + 4)) w3 (text_small hs).2
            have hsl := sum_lt (gl.text s (i + 4))
            go_wp2_with (go_at_call 28; fail)
            refine hcs.mono ?_
            rintro e w4 ⟨rfl, hw4⟩
            obtain rfl := hw4
            clear hcs
            by_cases he : gi.num s i 4 = (cs.sum (gl.text s (i + 4)) : Int)
            · have HY := yes ha hh hg he
              obtain ⟨ga, gc, rfl, hm⟩ := pmk.mine_of flP.c_len hrow
              have hm' : MP w3 wr.heap.size ga (bat s i) := by
                rcases hm with e | ⟨g, off, e, hB, hO⟩
                · exact .inl e
                · exact .inr ⟨g, off, e, Nat.le_trans hb2.size hB, hO⟩
              obtain ⟨v', Y, hr, hro⟩ := app_one (c := gc) hst.out.ro hb13 hm' (by omega)
              have HN : Hid (St s w (gl.behind s (i + 4)) (rs ++ [⟨ga, gc, bat s i⟩]) v' Y) := hst.out.next HY hro
              have HI := isR_in HY
              unfold nxt at HI
              unfold bat at hr
              clear hm hm' hro hrow HY hst hb13 hb2 hb3 ha hh hg
              rw [he]
              go_wp2_with (at_builtin; refine cpr.wpList_append_run rfl _ _ _ _ rfl _ _ _ rfl rfl hr ?_)
              go_roundw
              case rel => exact ⟨_, _, rfl, HN⟩
              case measure => simp [intOf]; omega
            · have HF := hst.out.fin hs2 (no_4 he) hb13
              obtain ⟨n4, hn4⟩ : ∃ n4, gi.num s i 4 = n4 := ⟨_, rfl⟩
              obtain ⟨m4, hm4⟩ : ∃ m4 : Int, (cs.sum (gl.text s (i + 4)) : Int) = m4 := ⟨_, rfl⟩
              rw [hn4] at he ⊢
              rw [hm4] at he ⊢
              have he1 : (n4 == m4) = false := by simpa using he
              have he2 : (n4 != m4) = true := by simpa using he
              have hmw : wrap64 m4 = m4 := IntWalk.wrap64_in m4 (by rw [← hm4]; omega)
              have he3 : (n4 != wrap64 m4) = true := by rw [hmw]; exact he2
              clear hn4 hm4 hsl hA
              go_wp2
              go_ret2
              exact HF
    · have HF := hst.out.fin hs2 (isR_end (by omega)) (Below.refl _ _)
      go_wp2
      go_ret2
      exact HF
end Go.Proofs.YtjnfljipomjcjaaGreatDoor.rcS

/- The program's reader of a batch: what each of its methods takes, and that it fails by a panic with a fault of its own. -/
namespace Go.Proofs.YtjnfljipomjcjaaGreatDoor.brd
open Go.ChangeShapes Go.WideShapes Go.ChangeAt Go.RowKit Go.Proofs.YtjnfljipomjcjaaGreatDoor.fl Go.Proofs.YtjnfljipomjcjaaGreatDoor.fo Go.Proofs.YtjnfljipomjcjaaGreatDoor.gbp
set_option linter.unusedVariables false

/-- the reader in memory: the bytes, and the place that it has come to -/
def RB (w : World) (r : Nat) (s : ByteArray) (i : Int) : Prop := w.heap[r]? = some (.cells #[.string s, .int .i64 i] 68 (0, 0))
/-- a panic with a fault -/
def Pk (e : Ending) : Prop := ∃ j : Int, e = .panicked [{ v := .iface 97 (.agg #[.int .i64 j]), recovered := false }]
/-- nothing but the reader's own block is turned -/
def Tr (r : Nat) (w w' : World) : Prop := Tn w w' (fun k => k = r)
theorem tr_drew (r : Nat) (w : World) : Tr r w w.drew := Tn.of _ (Below.refl _ _).drew
theorem tr_drewN (r n : Nat) (w : World) : Tr r w (w.drewN n) := ⟨rfl, rfl, rfl, Nat.le_refl _, fun _ _ _ => rfl⟩
theorem tr_moved (w : World) (r : Nat) (b : Int) : Tr r w (w.setCell ⟨r, 1, none⟩ (.int .i64 b)) := Tn.set (Tn.refl w (fun k => k = r)) (S := fun k => k = r) rfl 1 _
theorem Tr.trans {r : Nat} {a b c : World} (h : Tr r a b) (h2 : Tr r b c) : Tr r a c := Tn.trans h h2
theorem tr_below {r : Nat} {a b : World} (h : Below a.heap.size a b) : Tr r a b := Tn.of _ h
theorem RB.moved {w : World} {r : Nat} {s : ByteArray} {i : Int} (h : RB w r s i) (b : Int) : RB (w.setCell ⟨r, 1, none⟩ (.int .i64 b)) r s b := bset h 1 _
theorem RB.on {w w' : World} {r : Nat} {s : ByteArray} {i : Int} (h : RB w r s i) (hb : Below w.heap.size w w') : RB w' r s i := bstay h hb (Array.getElem?_eq_some_iff.1 h).1
set_option maxRecDepth 100000 in
theorem fail_run (r : Nat) (s : ByteArray) (i : Int) (w : World) (h : RB w r s i) : Calls Tryz.prog 67 #[.pointer (some ⟨r, 0, none⟩)] w fun e w' => Pk e ∧ w' = w := by
  have c1 : w.cell? ⟨r, 1, none⟩ = some (.int .i64 i) := bcell h rfl
  go_enter Tryz.func67, Tryz.ntmps67
  go_wp2
  exact ⟨rfl, ⟨i, rfl⟩, rfl⟩
set_option maxRecDepth 100000 in
theorem move_bad (r : Nat) (s : ByteArray) (i b : Int) (w : World) (h : RB w r s i) (hb : b < 0) : Calls Tryz.prog 68 #[.pointer (some ⟨r, 0, none⟩), .int .i64 b] w fun e w' => Pk e ∧ w' = w := by
  have hf := fail_run r s i w h
  go_enter Tryz.func68, Tryz.ntmps68
  go_wp2_with (go_at_call 67; fail)
  refine hf.mono ?_
  rintro e w' ⟨⟨j, rfl⟩, hw⟩
  obtain rfl := hw.symm
  go_wp2
  exact ⟨rfl, ⟨j, rfl⟩, rfl⟩
set_option maxRecDepth 100000 in
theorem move_run (r : Nat) (s : ByteArray) (i b : Int) (w : World) (h : RB w r s i) (hb : 0 ≤ b) : Calls Tryz.prog 68 #[.pointer (some ⟨r, 0, none⟩), .int .i64 b] w fun e w' => e = .returned (.tuple #[]) ∧ w' = w.setCell ⟨r, 1, none⟩ (.int .i64 b) := by
  have c1 : w.cell? ⟨r, 1, none⟩ = some (.int .i64 i) := bcell h rfl
  have f1 : w.frozen? ⟨r, 1, none⟩ = false := bfree h 1
  have hb' : ¬ b < 0 := by omega
  clear h
  go_enter Tryz.func68, Tryz.ntmps68
  go_wp2
  go_end0
  exact ⟨rfl, rfl⟩
set_option maxRecDepth 100000 in
set_option maxHeartbeats 1000000 in
theorem number_bad (r : Nat) (s : ByteArray) (i m : Int) (w : World) (hs : s.size ≤ 1048576) (h : RB w r s i) (hi0 : 0 ≤ i) (hi1 : i ≤ s.size) (hm : 0 ≤ m) (hc : (gi.okAt s i 1 && decide (gi.num s i 1 ≤ m)) = false) : Calls Tryz.prog 38 #[.pointer (some ⟨r, 0, none⟩), .int .i64 m] w fun e w' => Pk e ∧ Tr r w w' := by
  have c0 : w.cell? ⟨r, 0, none⟩ = some (.string s) := bcell h rfl
  have c1 : w.cell? ⟨r, 1, none⟩ = some (.int .i64 i) := bcell h rfl
  have hg := gi.impl_get s i 1 w.drew hs (by omega) (by omega)
  have hcase : m < gi.num s i 1 ∨ (¬ m < gi.num s i 1 ∧ gi.stop s i 1 < 0) := by
    cases ha : gi.okAt s i 1 with
    | false => exact .inr (by rw [(stop_no ha).1, (stop_no ha).2]; omega)
    | true =>
      rw [ha, Bool.true_and] at hc
      simp at hc
      exact .inl hc
  obtain ⟨g0, hg0⟩ : ∃ g0, gi.num s i 1 = g0 := ⟨_, rfl⟩
  obtain ⟨p0, hp0⟩ : ∃ p0, gi.stop s i 1 = p0 := ⟨_, rfl⟩
  rw [hg0, hp0] at hg hcase
  have hd : RB w.drew r s i := h
  have hf := fail_run r s i w.drew hd
  have HT : Hid (Tr r w w.drew) := tr_drew r w
  clear hc hg0 hp0
  rcases hcase with h1 | ⟨h1, h2⟩
  · clear h hd
    go_enter Tryz.func38, Tryz.ntmps38
    go_wp2
    go_region_with (go_at_call 58; refine hg.mono ?_; rintro e w0 ⟨rfl, hw0⟩; obtain rfl := hw0.symm)
    all_goals
      go_wp2_with (go_at_call 67; refine hf.mono ?_; rintro e w1 ⟨⟨j, rfl⟩, hw1⟩; obtain rfl := hw1.symm)
      exact ⟨rfl, ⟨j, rfl⟩, HT.out⟩
  · have hmv := move_bad r s i p0 w.drew hd h2
    clear h hd
    go_enter Tryz.func38, Tryz.ntmps38
    go_wp2
    go_region_with (go_at_call 58; refine hg.mono ?_; rintro e w0 ⟨rfl, hw0⟩; obtain rfl := hw0.symm)
    all_goals
      go_wp2_with (go_at_call 68; refine hmv.mono ?_; rintro e w1 ⟨⟨j, rfl⟩, hw1⟩; obtain rfl := hw1.symm)
      exact ⟨rfl, ⟨j, rfl⟩, HT.out⟩
set_option maxRecDepth 100000 in
set_option maxHeartbeats 1000000 in
theorem number_run (r : Nat) (s : ByteArray) (i m : Int) (w : World) (hs : s.size ≤ 1048576) (h : RB w r s i) (hm : 0 ≤ m) (ha : gi.okAt s i 1 = true) (hn : gi.num s i 1 ≤ m) : Calls Tryz.prog 38 #[.pointer (some ⟨r, 0, none⟩), .int .i64 m] w fun e w' => e = .returned (.int .i64 (gi.num s i 1)) ∧ RB w' r s (i + 1) ∧ Tr r w w' := by
  have hai := at_in ha
  have c0 : w.cell? ⟨r, 0, none⟩ = some (.string s) := bcell h rfl
  have c1 : w.cell? ⟨r, 1, none⟩ = some (.int .i64 i) := bcell h rfl
  have hg := gi.impl_get s i 1 w.drew hs (by omega) (by omega)
  rw [stop_at ha] at hg
  have hd : RB w.drew r s i := h
  have hmv := move_run r s i (i + 1) w.drew hd (by omega)
  obtain ⟨g0, hg0⟩ : ∃ g0, gi.num s i 1 = g0 := ⟨_, rfl⟩
  rw [hg0] at hg hn ⊢
  have h1 : ¬ m < g0 := by omega
  have HF : Hid (RB (w.drew.setCell ⟨r, 1, none⟩ (.int .i64 (i + 1))) r s (i + 1) ∧ Tr r w (w.drew.setCell ⟨r, 1, none⟩ (.int .i64 (i + 1)))) := ⟨hd.moved _, (tr_drew r w).trans (tr_moved _ _ _)⟩
  clear ha hai hg0 h hd
  go_enter Tryz.func38, Tryz.ntmps38
  go_wp2
  go_region_with (go_at_call 58; refine hg.mono ?_; rintro e w0 ⟨rfl, hw0⟩; obtain rfl := hw0.symm)
  all_goals
    go_wp2_with (go_at_call 68; refine hmv.mono ?_; rintro e w1 ⟨rfl, hw1⟩; obtain rfl := hw1.symm)
    go_ret
    exact ⟨rfl, HF.out.1, HF.out.2⟩
set_option maxRecDepth 100000 in
theorem end_run (r : Nat) (s : ByteArray) (i : Int) (w : World) (h : RB w r s i) (hi : i = s.size) : Calls Tryz.prog 40 #[.pointer (some ⟨r, 0, none⟩)] w fun e w' => e = .returned (.tuple #[]) ∧ Tr r w w' := by
  subst hi
  have c0 : w.cell? ⟨r, 0, none⟩ = some (.string s) := bcell h rfl
  have c1 : w.cell? ⟨r, 1, none⟩ = some (.int .i64 (s.size : Int)) := bcell h rfl
  have HT : Hid (∀ n, Tr r w (w.drewN n)) := fun n => tr_drewN r n w
  clear h
  go_enter Tryz.func40, Tryz.ntmps40
  go_wp2
  go_quiet (fail)
  go_wp2
  go_end0
  exact ⟨rfl, HT.out _⟩
set_option maxRecDepth 100000 in
theorem end_bad (r : Nat) (s : ByteArray) (i : Int) (w : World) (h : RB w r s i) (hi : i ≠ s.size) : Calls Tryz.prog 40 #[.pointer (some ⟨r, 0, none⟩)] w fun e w' => Pk e ∧ Tr r w w' := by
  have c0 : w.cell? ⟨r, 0, none⟩ = some (.string s) := bcell h rfl
  have c1 : w.cell? ⟨r, 1, none⟩ = some (.int .i64 i) := bcell h rfl
  have HF : Hid (∀ n, Calls Tryz.prog 67 #[.pointer (some ⟨r, 0, none⟩)] (w.drewN n) fun e w' => Pk e ∧ w' = w.drewN n) := fun n => fail_run r s i (w.drewN n) h
  have d1 : (i != (s.size : Int)) = true := by simp [hi]
  have HT : Hid (∀ n, Tr r w (w.drewN n)) := fun n => tr_drewN r n w
  clear h
  go_enter Tryz.func40, Tryz.ntmps40
  go_wp2
  go_quiet (fail)
  have hf := HF.out nq
  obtain ⟨W, hW⟩ : ∃ W, w.drewN nq = W := ⟨_, rfl⟩
  have HT2 := HT.out nq
  rw [hW] at hf HT2 ⊢
  go_wp2_with (go_at_call 67; refine hf.mono ?_; rintro e w1 ⟨⟨j, rfl⟩, hw1⟩; obtain rfl := hw1.symm)
  exact ⟨rfl, ⟨j, rfl⟩, HT2⟩
end Go.Proofs.YtjnfljipomjcjaaGreatDoor.brd
