/- The specification's Records. -/
import Derived.Test.YtlgcciaebkfnjaaGreatDoorRecPure
import Derived.Test.YtlgcciaebkfnjaaGreatDoorRecMem
namespace Go.Proofs.YtlgcciaebkfnjaaGreatDoor.rcS
open Go.ChangeShapes Go.WideShapes Go.ChangeAt Go.RowKit Go.Proofs.YtlgcciaebkfnjaaGreatDoor.fl Go.Proofs.YtlgcciaebkfnjaaGreatDoor.fo Go.Proofs.YtlgcciaebkfnjaaGreatDoor.rn Go.Proofs.YtlgcciaebkfnjaaGreatDoor.mrR Go.Proofs.YtlgcciaebkfnjaaGreatDoor.gbp Go.Proofs.YtlgcciaebkfnjaaGreatDoor.rcp Go.Proofs.YtlgcciaebkfnjaaGreatDoor.rcm
set_option linter.unusedVariables false

/-- what stands when some records are read -/
structure St (s : ByteArray) (w : World) (i : Int) (rs : List Rn) (v : Value) (W : World) : Prop where
  ro : RO w W v rs
  left : rcp.Left s (rs.map (·.l)) i
theorem St.lo {s : ByteArray} {w : World} {i : Int} {rs : List Rn} {v : Value} {W : World} (h : St s w i rs v W) : 0 ≤ i ∧ i ≤ s.size := ⟨by have := h.left.far; omega, h.left.hi⟩
theorem St.len {s : ByteArray} {w : World} {i : Int} {rs : List Rn} {v : Value} {W : World} (h : St s w i rs v W) (hs : s.size ≤ 200000) : rs.length ≤ 25000 := by
  have := left_len hs h.left
  rwa [List.length_map] at this
theorem St.fin {s : ByteArray} {w : World} {i : Int} {rs : List Rn} {v : Value} {W X : World} (h : St s w i rs v W) (hs : s.size ≤ 200000) (hr : isR s i = false) (hb : Below W.heap.size W X) : ∃ v', Ending.returned (.tuple #[v, .int .i64 i]) = .returned (.tuple #[v', .int .i64 (recs s).2]) ∧ ∃ rs' : List Rn, rs'.map (·.l) = (recs s).1 ∧ RO w X v' rs' := by
  rw [left_end hs h.left hr]
  exact ⟨v, rfl, rs, rfl, h.ro.on hb⟩
theorem St.next {s : ByteArray} {w : World} {i : Int} {rs : List Rn} {v v' : Value} {W Y : World} {a : Option Addr} {c : Nat} (h : St s w i rs v W) (hr : isR s i = true) (ho : RO w Y v' (rs ++ [⟨a, c, bat s i⟩])) : St s w (nxt s i) (rs ++ [⟨a, c, bat s i⟩]) v' Y := by
  refine ⟨ho, ?_⟩
  rw [List.map_append]
  exact left_yes h.left hr
theorem no_1 {s : ByteArray} {i : Int} (h : gi.okAt s i 4 = false) : isR s i = false := by unfold isR; rw [h]; rfl
theorem no_2 {s : ByteArray} {i : Int} (h : gl.here s (i + 4) = false) : isR s i = false := by unfold isR; rw [h]; simp
theorem no_3 {s : ByteArray} {i : Int} (h : gotB (gl.text s (i + 4)) = false) : isR s i = false := by unfold isR; rw [h]; simp
theorem no_4 {s : ByteArray} {i : Int} (h : gi.num s i 4 ≠ (cs.sum (gl.text s (i + 4)) : Int)) : isR s i = false := by unfold isR; simp [h]
theorem yes {s : ByteArray} {i : Int} (h1 : gi.okAt s i 4 = true) (h2 : gl.here s (i + 4) = true) (h3 : gotB (gl.text s (i + 4)) = true) (h4 : gi.num s i 4 = (cs.sum (gl.text s (i + 4)) : Int)) : isR s i = true := by unfold isR; simp [h1, h2, h3, h4]
theorem sum_lt (s : ByteArray) : cs.sum s ≤ 4294967295 := by
  unfold cs.sum
  have := Nat.xor_lt_two_pow (n := 32) (cs.st_lt s s.size) (show 4294967295 < 2 ^ 32 by decide)
  omega

set_option maxRecDepth 100000 in
set_option maxHeartbeats 2000000 in
theorem spec_recs (s : ByteArray) (w : World) (hs : s.size ≤ 1048576) :
    Calls Tryz.prog 55 #[.string s] w fun e w' => ∃ v, e = .returned (.tuple #[v, .int .i64 (recs s).2]) ∧ ∃ rs : List Rn, rs.map (·.l) = (recs s).1 ∧ RO w w' v rs := by
  have HR0 : Hid (RO w (w.alloc (.cells #[] 24)) (.slice (some ⟨w.heap.size, 0, none⟩) 0 0) []) := ⟨(Below.refl _ _).alloc (Nat.le_refl _) _, World.ownsRow_made w #[] 0 (Nat.le_refl _) (by unfold maxLen; omega) (by simp), fun r hr => by (cases hr), fun i j r s hi => by simp at hi⟩
  by_cases hbig : 200000 < s.size
  · have b1 : (0 : Int) < (s.size : Int) := by omega
    have b2 : ¬ (s.size : Int) ≤ 200000 := by omega
    go_enter Tryz.func55, Tryz.ntmps55
    go_wp2
    refine wp_loop_rounds 1 ?_
    rw [rounds_succ]
    go_wp2
    go_ret2
    rw [recs_big hbig]
    exact ⟨_, rfl, [], rfl, HR0.out⟩
  have hs2 : s.size ≤ 200000 := by omega
  have b2 : (s.size : Int) ≤ 200000 := by omega
  have HS0 : Hid (St s w 0 [] (.slice (some ⟨w.heap.size, 0, none⟩) 0 0) (w.alloc (.cells #[] 24))) := ⟨HR0.out, left_0 s⟩
  clear HR0 hbig
  go_enter Tryz.func55, Tryz.ntmps55
  go_wp2
  obtain ⟨W0, hW0⟩ : ∃ W0, w.alloc (.cells #[] 24) = W0 := ⟨_, rfl⟩
  rw [hW0] at HS0 ⊢
  clear hW0
  go_loopw [4, 5] (fun v y wr => ∃ (i : Int) (rs : List Rn), y = .int .i64 i ∧ Hid (St s w i rs v wr)) (fun _ y _ => s.size - (intOf y).toNat)
  case atStart => exact ⟨0, [], rfl, HS0⟩
  case round =>
    obtain ⟨i, rs, rfl, hst⟩ := hrel
    clear HS0
    obtain ⟨hlo, hhi⟩ := hst.out.lo
    have hlen := hst.out.len hs2
    by_cases hin : i < (s.size : Int)
    · have hgi := gi.spec_get s i 4 wr hs (by omega) (by omega)
      go_wp2_with (go_at_call 91; fail)
      refine hgi.mono ?_
      rintro e w1 ⟨rfl, hw1⟩
      obtain rfl := hw1.symm
      clear hgi
      cases ha : gi.okAt s i 4 with
      | false =>
        have h0 := gl.none s i ha
        rw [h0.1, h0.2]
        have HF := hst.out.fin hs2 (no_1 ha) (Below.refl _ _)
        go_wp2
        go_ret2
        exact HF
      | true =>
        have hA := at4 ha
        rw [stop4 ha]
        have hgl := gl.spec_getLong s (i + 4) wr hs (by omega) (by omega)
        have i4 : ¬ (i + 4 < 0) := by omega
        go_wp2_with (go_at_call 92; fail)
        refine hgl.mono ?_
        rintro e w2 ⟨rfl, hb2⟩
        clear hgl
        have hgb := gbs.spec_got (gl.text s (i + 4)) w2 (text_small hs).2
        go_wp2_with (go_at_call 93; fail)
        refine hgb.mono ?_
        rintro e w3 ⟨vb, rfl, hrow, hb3⟩
        have hb13 : Below wr.heap.size wr w3 := hb2.trans (hb3.mono hb2.size)
        clear hgb
        cases hh : gl.here s (i + 4) with
        | false =>
          have HF := hst.out.fin hs2 (no_2 hh) hb13
          rw [long_no hh]
          go_wp2
          go_ret2
          exact HF
        | true =>
          have hL := long_in hh
          have h5 : ¬ gl.behind s (i + 4) < 0 := by omega
          cases hg : gotB (gl.text s (i + 4)) with
          | false =>
            have HF := hst.out.fin hs2 (no_3 hg) hb13
            go_wp2
            go_ret2
            exact HF
          | true =>
            have hcs := cs.spec_sum (gl.text s (i + 4)) w3 (text_small hs).2
            have hsl := sum_lt (gl.text s (i + 4))
            go_wp2_with (go_at_call 94; fail)
            refine hcs.mono ?_
            rintro e w4 ⟨rfl, hw4⟩
            obtain rfl := hw4
            clear hcs
            by_cases he : gi.num s i 4 = (cs.sum (gl.text s (i + 4)) : Int)
            · have HY := yes ha hh hg he
              obtain ⟨ga, gc, rfl, hm⟩ := pmk.mine_of flP.c_len hrow
              have hm' : MP w3 wr.heap.size ga (bat s i) := by
                rcases hm with e | ⟨g, off, e, hB, hO⟩
                · exact .inl e
                · exact .inr ⟨g, off, e, Nat.le_trans hb2.size hB, hO⟩
              obtain ⟨v', Y, hr, hro⟩ := app_one (c := gc) hst.out.ro hb13 hm' (by omega)
              have HN : Hid (St s w (gl.behind s (i + 4)) (rs ++ [⟨ga, gc, bat s i⟩]) v' Y) := hst.out.next HY hro
              have HI := isR_in HY
              unfold nxt at HI
              unfold bat at hr
              clear hm hm' hro hrow HY hst hb13 hb2 hb3 ha hh hg
              rw [he]
              go_wp2_with (at_builtin; refine cpr.wpList_append_run rfl _ _ _ _ rfl _ _ _ rfl rfl hr ?_)
              go_roundw
              case rel => exact ⟨_, _, rfl, HN⟩
              case measure => simp [intOf]; omega
            · have HF := hst.out.fin hs2 (no_4 he) hb13
              obtain ⟨n4, hn4⟩ : ∃ n4, gi.num s i 4 = n4 := ⟨_, rfl⟩
              obtain ⟨m4, hm4⟩ : ∃ m4 : Int, (cs.sum (gl.text s (i + 4)) : Int) = m4 := ⟨_, rfl⟩
              rw [hn4] at he ⊢
              rw [hm4] at he ⊢
              have he1 : (n4 == m4) = false := by simpa using he
              have he2 : (n4 != m4) = true := by simpa using he
              have hmw : wrap64 m4 = m4 := IntWalk.wrap64_in m4 (by rw [← hm4]; omega)
              have he3 : (n4 != wrap64 m4) = true := by rw [hmw]; exact he2
              clear hn4 hm4 hsl hA
              go_wp2
              go_ret2
              exact HF
    · have HF := hst.out.fin hs2 (isR_end (by omega)) (Below.refl _ _)
      go_wp2
      go_ret2
      exact HF
end Go.Proofs.YtlgcciaebkfnjaaGreatDoor.rcS
