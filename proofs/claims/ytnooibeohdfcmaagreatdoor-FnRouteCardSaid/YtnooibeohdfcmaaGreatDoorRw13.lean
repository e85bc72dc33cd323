/- strings.Split at a dot: the words between the dots, in a new row, at every text of at most 1048576 bytes. -/
import Derived.Test.YtnooibeohdfcmaaGreatDoorRw12
import Derived.BigRegion
import Derived.Deep.RegionWith
import Derived.Test.YtnooibeohdfcmaaGreatDoorRw10
import Derived.Test.YtnooibeohdfcmaaGreatDoorSplitLaid

/- The specification's match of words, row by row: it answers as 'fits' says; new memory alone. -/
namespace Go.Proofs.YtnooibeohdfcmaaGreatDoor.ts
set_option linter.unusedVariables false
open Go.ChangeShapes Go.WideShapes Go.ChangeAt Go.RowKit Go.Proofs.YtnooibeohdfcmaaGreatDoor.sm Go.Proofs.YtnooibeohdfcmaaGreatDoor.tp

/-- the first m bits of a row, as values -/
def rl (f : Nat → Bool) (m : Nat) : List Value := (List.range m).map fun j => .bool (f j)
theorem rl_succ (f : Nat → Bool) (m : Nat) : rl f (m + 1) = rl f m ++ [.bool (f m)] := by simp [rl, List.range_succ]
theorem rl_get (f : Nat → Bool) (m j : Nat) (h : j < m) : (rl f m)[j]? = some (.bool (f j)) := by simp [rl, h]
theorem infoB : (Tryz.prog.info? 4).map (fun i => (i.zero, i.size, i.bytes)) = some (some (.bool false), 1, 1) := by kernel_rfl

theorem owns_cell {w : World} {base m : Nat} {v : Value} {f : Nat → Bool} (h : w.ownsRow base 4 1 v m (rl f m)) (hm : 0 < m) :
    ∃ g cap, v = .slice (some ⟨g, 0, none⟩) m cap ∧ base ≤ g ∧ g < w.heap.size ∧ ∀ j, j < m → w.cell? ⟨g, j, none⟩ = some (.bool (f j)) := by
  obtain ⟨_, h⟩ := h
  rcases h with ⟨_, h0⟩ | ⟨g, cap, cur, hv, hb, hg, h1, _, h2, h3⟩
  · omega
  · refine ⟨g, cap, hv, hb, (Array.getElem?_eq_some_iff.1 hg).1, fun j hj => ?_⟩
    have h4 : cur.toList[j]? = some (.bool (f j)) := by
      have := congrArg (fun x => x[j]?) h3
      simp only [Nat.mul_one, List.getElem?_take_of_lt hj, rl_get f m j hj] at this
      exact this
    have h5 : cur[j]? = some (.bool (f j)) := by rw [← Array.getElem?_toList]; exact h4
    simp [World.cell?, hg, h5]

/-- the row that a slot names -/
def At (w : World) (B g cap m : Nat) (f : Nat → Bool) : Prop := w.ownsRow B 4 1 (.slice (some ⟨g, 0, none⟩) m cap) m (rl f m)

theorem at_cells {w : World} {B g cap m : Nat} {f : Nat → Bool} (h : At w B g cap m f) (hm : 0 < m) : B ≤ g ∧ g < w.heap.size ∧ ∀ j, j < m → w.cell? ⟨g, j, none⟩ = some (.bool (f j)) := by
  obtain ⟨g', cap', hv, h1, h2, h3⟩ := owns_cell h hm
  simp at hv
  obtain ⟨rfl, rfl⟩ := hv
  exact ⟨h1, h2, h3⟩

theorem at_mono {w : World} {B B' g cap m : Nat} {f : Nat → Bool} (h : At w B g cap m f) (hB : B' ≤ B) : At w B' g cap m f := by
  obtain ⟨h1, h2⟩ := h
  refine ⟨h1, ?_⟩
  rcases h2 with h2 | ⟨g', c', cur, hv, hb, h3⟩
  · exact .inl h2
  · exact .inr ⟨g', c', cur, hv, by omega, h3⟩
theorem of_same {x y : ByteArray} (h : x.toList = y.toList) : x = y := by
  rw [Lib.toList_data, Lib.toList_data] at h
  exact ByteArray.ext (Array.toList_inj.1 h)
theorem of_bytes {x : ByteArray} {l : List UInt8} (h : x.toList = l) : x = ⟨l.toArray⟩ := by
  rw [Lib.toList_data] at h
  exact ByteArray.ext (Array.toList_inj.1 (by simpa using h))

theorem at_first (w : World) (b : Bool) (f : Nat → Bool) (hf : f 0 = b) (B : Nat) (hB : B ≤ w.heap.size) : At (w.alloc (.cells #[.bool b] 4)) B w.heap.size 1 1 f := by
  have : rl f 1 = [.bool b] := by simp [rl, hf]
  unfold At
  rw [this]
  exact ⟨rfl, .inr ⟨w.heap.size, 1, #[.bool b], rfl, hB, heap_alloc_new w _, by first | rfl | simp | decide, by first | rfl | simp | decide, by first | rfl | simp | decide, by first | rfl | simp | decide⟩⟩

set_option maxRecDepth 100000 in
set_option maxHeartbeats 1000000 in
theorem spec_words (p k : List ByteArray) (gp cp gk ck : Nat) (w : World) (hp : p.length ≤ 1048577) (hk : k.length ≤ 1048577) (hP : Has w gp cp p) (hK : Has w gk ck k) :
    Calls Tryz.prog 62 #[.slice (some ⟨gp, 0, none⟩) p.length cp, .slice (some ⟨gk, 0, none⟩) k.length ck] w fun e w' => e = .returned (.bool (fits p k)) ∧ Below w.heap.size w w' := by
  obtain ⟨i0, hi, hz0, hz1, hz2⟩ := info_parts infoB
  have HP : Hid (Has w gp cp p) := hP
  have HK : Hid (Has w gk ck k) := hK
  have hgp := hP.lt
  have hgk := hK.lt
  clear hP hK
  go_enter Tryz.func62, Tryz.ntmps62
  go_wp2
  go_loopw [5, 6] (fun v x wr => ∃ (i g cap : Nat), i ≤ k.length ∧ x = .int .i64 i ∧ v = .slice (some ⟨g, 0, none⟩) (i + 1) cap ∧ Hid (At wr w.heap.size g cap (i + 1) row0) ∧ Below w.heap.size w wr) (fun _ x _ => k.length - (intOf x).toNat)
  case atStart => exact ⟨0, w.heap.size, 1, Nat.zero_le _, rfl, rfl, at_first w true row0 rfl _ (Nat.le_refl _), (Below.refl _ _).alloc (Nat.le_refl _) _⟩
  case round =>
    obtain ⟨i, g, cap, hik, rfl, rfl, hat, hbel⟩ := hrel
    have hBs := hbel.size
    by_cases hil : i < k.length
    · go_wp2_with (at_builtin; refine wpList_append_own _ rfl _ _ 108 rfl w.heap.size 4 i0 (.bool false) 1 1 Tryz.underlying108 hi hz0 hz1 hz2 rfl (by decide) _ _ _ rfl (hat.out.alloc _) ⟨wr.heap.size, 0, none⟩ 1 1 [.bool false] rfl rfl ?c1 ?c2 ?c3 ?c4 ?c5 ?_)
      case c1 => exact cell_one_new _ _ _
      case c2 => intro u hu; simp at hu; subst hu; rfl
      case c3 => unfold maxLen; omega
      case c4 => omega
      case c5 => simp; omega
      intro v' w1 hown' hgrow _
      have hbel' : Below w.heap.size w w1 := (hbel.alloc hBs _).grown hgrow (by simp; omega) (fun k hk => ((World.ownsRow.alloc hat.out (.cells #[.bool false] 4)).lt k hk).1)
      have hown2 : w1.ownsRow w.heap.size 4 1 v' (i + 2) (rl row0 (i + 2)) := by rw [rl_succ, show row0 (i + 1) = false by simp [row0]]; simpa using hown'
      obtain ⟨g', cap', rfl, hg1, hg2, hcells⟩ := owns_cell hown2 (by omega)
      have HAT : Hid (At w1 w.heap.size g' cap' (i + 2) row0) := hown2
      clear hat hown' hown2 hgrow hbel hcells
      go_wp2
      go_roundw
      case rel => exact ⟨i + 1, g', cap', by omega, by go_num, rfl, HAT, hbel'⟩
      case measure => simp [intOf]; omega
    · obtain rfl : i = k.length := by omega
      go_wp2
      go_loopw [5, 7, 8, 9] (fun v x _ _ wq => ∃ (q g cap : Nat), q ≤ p.length ∧ x = .int .i64 q ∧ v = .slice (some ⟨g, 0, none⟩) (k.length + 1) cap ∧ Hid (At wq w.heap.size g cap (k.length + 1) (rows (p.take q) k row0)) ∧ Below w.heap.size w wq) (fun _ x _ _ _ => p.length - (intOf x).toNat)
      case atStart => exact ⟨0, g, cap, Nat.zero_le _, rfl, rfl, hat, hbel⟩
      case round =>
        clear hat hbel hBs hik
        obtain ⟨q, g, cap, hq, rfl, rfl, hat, hbel⟩ := hrel
        obtain ⟨V, hV⟩ : ∃ V, V = wr := ⟨_, rfl⟩
        subst hV
        have hBs := hbel.size
        obtain ⟨hBg, hgl, hcells⟩ := at_cells hat.out (by omega)
        have HC : Hid (∀ j, j < k.length + 1 → V.cell? ⟨g, j, none⟩ = some (.bool (rows (p.take q) k row0 j))) := hcells
        by_cases hqp : q < p.length
        · have cx := (HP.out.below hbel hgp).cell q hqp
          have hrt := rows_take p k row0 q hqp
          obtain ⟨x, hx⟩ : ∃ x, p.getD q ByteArray.empty = x := ⟨_, rfl⟩
          rw [hx] at cx hrt
          clear hx hcells
          obtain ⟨r, hr⟩ : ∃ r, rows (p.take q) k row0 = r := ⟨_, rfl⟩
          rw [hr] at hrt HC
          rw [hr] at hat
          have HRT : Hid (rows (p.take (q + 1)) k row0 = nx x k r) := hrt
          have c0 := HC.out 0 (by omega)
          clear hr hrt
          by_cases hxh : x = hash
          · have HX : Hid (x = hash) := hxh
            have h35 : x.toList = [35] := by rw [hxh, Lib.toList_data]; rfl
            clear hxh
            go_wp2
            go_loopw [8, 9] (fun v y wq => ∃ (j g' cap' : Nat), 1 ≤ j ∧ j ≤ k.length + 1 ∧ y = .int .i64 j ∧ v = .slice (some ⟨g', 0, none⟩) j cap' ∧ Hid (At wq V.heap.size g' cap' j (nx x k r)) ∧ Below V.heap.size V wq) (fun _ y _ => k.length + 1 - (intOf y).toNat)
            case atStart => exact ⟨1, V.heap.size, 1, Nat.le_refl _, by omega, rfl, rfl, at_first V (r 0) (nx x k r) (by rw [nx_zero, HX.out]; simp) _ (Nat.le_refl _), (Below.refl _ _).alloc (Nat.le_refl _) _⟩
            case round =>
              obtain ⟨j, g2, cap2, hj1, hj2, rfl, rfl, hat2, hbel2⟩ := hrel
              have hBs2 := hbel2.size
              obtain ⟨hVg, hg2l, hcells2⟩ := at_cells hat2.out (by omega)
              have HC2 : Hid (∀ i, i < j → wr.cell? ⟨g2, i, none⟩ = some (.bool (nx x k r i))) := hcells2
              clear hcells2
              have cx2 : wr.cell? ⟨gp, q, none⟩ = some (.string x) := (hbel2.cell (p := ⟨gp, q, none⟩) (Nat.lt_of_lt_of_le hgp hBs)).trans cx
              by_cases hjk : j ≤ k.length
              · obtain ⟨m, hm⟩ : ∃ m, m + 1 = j := ⟨j - 1, by omega⟩
                have cr : wr.cell? ⟨g, j, none⟩ = some (.bool (r j)) := (hbel2.cell (p := ⟨g, j, none⟩) hgl).trans (HC.out j (by omega))
                have cn : wr.cell? ⟨g2, j - 1, none⟩ = some (.bool (nx x k r (j - 1))) := HC2.out (j - 1) (by omega)
                have hv : nx x k r j = (r j || nx x k r (j - 1)) := by subst hm; rw [HX.out, nx_hash]; rfl
                clear hm
                cases hrj : r j with
                | true =>
                  rw [hrj] at cr hv
                  have HV : Hid (nx x k r j = true) := hv
                  clear hv hrj
                  go_wp2_with (at_builtin; refine wpList_append_own _ rfl _ _ 108 rfl V.heap.size 4 i0 (.bool false) 1 1 Tryz.underlying108 hi hz0 hz1 hz2 rfl (by decide) _ _ _ rfl (World.ownsRow.alloc hat2.out _) ⟨wr.heap.size, 0, none⟩ 1 1 [.bool true] rfl rfl ?c1 ?c2 ?c3 ?c4 ?c5 ?_)
                  case c1 => exact cell_one_new _ _ _
                  case c2 => intro u hu; simp at hu; subst hu; rfl
                  case c3 => unfold maxLen; omega
                  case c4 => omega
                  case c5 => simp; omega
                  intro v' w1 hown' hgrow _
                  have hbel3 : Below V.heap.size V w1 := (hbel2.alloc hBs2 _).grown hgrow (by simp; omega) (fun k hk => ((World.ownsRow.alloc hat2.out (.cells #[.bool true] 4)).lt k hk).1)
                  have hown2 : w1.ownsRow V.heap.size 4 1 v' (j + 1) (rl (nx x k r) (j + 1)) := by rw [rl_succ, HV.out]; simpa using hown'
                  obtain ⟨g', cap', rfl, hg1, hg2, hcells⟩ := owns_cell hown2 (by omega)
                  have HAT : Hid (At w1 V.heap.size g' cap' (j + 1) (nx x k r)) := hown2
                  clear hat2 hown' hown2 hgrow hbel2 hcells
                  go_wp2
                  go_roundw
                  case rel => exact ⟨j + 1, g', cap', by omega, by omega, by go_num, rfl, HAT, hbel3⟩
                  case measure => simp [intOf]; omega
                | false =>
                  rw [hrj] at cr hv
                  obtain ⟨bn, hbn⟩ : ∃ bn, nx x k r (j - 1) = bn := ⟨_, rfl⟩
                  rw [hbn, Bool.false_or] at hv
                  rw [hbn] at cn
                  have HV : Hid (nx x k r j = bn) := hv
                  clear hbn
                  clear hv hrj
                  go_wp2_with (at_builtin; refine wpList_append_own _ rfl _ _ 108 rfl V.heap.size 4 i0 (.bool false) 1 1 Tryz.underlying108 hi hz0 hz1 hz2 rfl (by decide) _ _ _ rfl (World.ownsRow.alloc hat2.out _) ⟨wr.heap.size, 0, none⟩ 1 1 [.bool bn] rfl rfl ?c1 ?c2 ?c3 ?c4 ?c5 ?_)
                  case c1 => exact cell_one_new _ _ _
                  case c2 => intro u hu; simp at hu; subst hu; rfl
                  case c3 => unfold maxLen; omega
                  case c4 => omega
                  case c5 => simp; omega
                  intro v' w1 hown' hgrow _
                  have hbel3 : Below V.heap.size V w1 := (hbel2.alloc hBs2 _).grown hgrow (by simp; omega) (fun k hk => ((World.ownsRow.alloc hat2.out (.cells #[.bool bn] 4)).lt k hk).1)
                  have hown2 : w1.ownsRow V.heap.size 4 1 v' (j + 1) (rl (nx x k r) (j + 1)) := by rw [rl_succ, HV.out]; simpa using hown'
                  obtain ⟨g', cap', rfl, hg1, hg2, hcells⟩ := owns_cell hown2 (by omega)
                  have HAT : Hid (At w1 V.heap.size g' cap' (j + 1) (nx x k r)) := hown2
                  clear hat2 hown' hown2 hgrow hbel2 hcells
                  go_wp2
                  go_roundw
                  case rel => exact ⟨j + 1, g', cap', by omega, by omega, by go_num, rfl, HAT, hbel3⟩
                  case measure => simp [intOf]; omega
              · obtain rfl : j = k.length + 1 := by omega
                have HAT2 : Hid (At wr w.heap.size g2 cap2 (k.length + 1) (rows (p.take (q + 1)) k row0)) := by
                  unfold Hid
                  rw [HRT.out]
                  exact at_mono hat2.out hBs
                have hbel4 : Below w.heap.size w wr := hbel.trans (hbel2.mono hBs)
                clear hat2 HC2 hat HC hbel2
                go_wp2
                go_roundw
                case rel => exact ⟨q + 1, g2, cap2, by omega, by go_num, rfl, HAT2, hbel4⟩
                case measure => simp [intOf]; omega
          · have h35 : ¬ x.toList = [35] := fun e => hxh (of_bytes e)
            by_cases hxs : x = star
            · have HX : Hid (x = star) := hxs
              have h42 : x.toList = [42] := by rw [hxs, Lib.toList_data]; rfl
              clear hxh hxs h35
              go_wp2
              go_loopw [8, 9] (fun v y wq => ∃ (j g' cap' : Nat), 1 ≤ j ∧ j ≤ k.length + 1 ∧ y = .int .i64 j ∧ v = .slice (some ⟨g', 0, none⟩) j cap' ∧ Hid (At wq V.heap.size g' cap' j (nx x k r)) ∧ Below V.heap.size V wq) (fun _ y _ => k.length + 1 - (intOf y).toNat)
              case atStart => exact ⟨1, V.heap.size, 1, Nat.le_refl _, by omega, rfl, rfl, at_first V false (nx x k r) (by rw [nx_zero, HX.out]; rfl) _ (Nat.le_refl _), (Below.refl _ _).alloc (Nat.le_refl _) _⟩
              case round =>
                obtain ⟨j, g2, cap2, hj1, hj2, rfl, rfl, hat2, hbel2⟩ := hrel
                have hBs2 := hbel2.size
                obtain ⟨hVg, hg2l, hcells2⟩ := at_cells hat2.out (by omega)
                have HC2 : Hid (∀ i, i < j → wr.cell? ⟨g2, i, none⟩ = some (.bool (nx x k r i))) := hcells2
                clear hcells2
                have cx2 : wr.cell? ⟨gp, q, none⟩ = some (.string x) := (hbel2.cell (p := ⟨gp, q, none⟩) (Nat.lt_of_lt_of_le hgp hBs)).trans cx
                by_cases hjk : j ≤ k.length
                · obtain ⟨m, hm⟩ : ∃ m, m + 1 = j := ⟨j - 1, by omega⟩
                  have cr : wr.cell? ⟨g, j - 1, none⟩ = some (.bool (r (j - 1))) := (hbel2.cell (p := ⟨g, j - 1, none⟩) hgl).trans (HC.out (j - 1) (by omega))
                  have hv : nx x k r j = r (j - 1) := by subst hm; rw [HX.out, nx_star]; rfl
                  clear hm
                  obtain ⟨bn, hbn⟩ : ∃ bn, r (j - 1) = bn := ⟨_, rfl⟩
                  rw [hbn] at cr hv
                  have HV : Hid (nx x k r j = bn) := hv
                  clear hbn hv
                  go_wp2_with (at_builtin; refine wpList_append_own _ rfl _ _ 108 rfl V.heap.size 4 i0 (.bool false) 1 1 Tryz.underlying108 hi hz0 hz1 hz2 rfl (by decide) _ _ _ rfl (World.ownsRow.alloc hat2.out _) ⟨wr.heap.size, 0, none⟩ 1 1 [.bool bn] rfl rfl ?c1 ?c2 ?c3 ?c4 ?c5 ?_)
                  case c1 => exact cell_one_new _ _ _
                  case c2 => intro u hu; simp at hu; subst hu; rfl
                  case c3 => unfold maxLen; omega
                  case c4 => omega
                  case c5 => simp; omega
                  intro v' w1 hown' hgrow _
                  have hbel3 : Below V.heap.size V w1 := (hbel2.alloc hBs2 _).grown hgrow (by simp; omega) (fun k hk => ((World.ownsRow.alloc hat2.out (.cells #[.bool bn] 4)).lt k hk).1)
                  have hown2 : w1.ownsRow V.heap.size 4 1 v' (j + 1) (rl (nx x k r) (j + 1)) := by rw [rl_succ, HV.out]; simpa using hown'
                  obtain ⟨g', cap', rfl, hg1, hg2, hcells⟩ := owns_cell hown2 (by omega)
                  have HAT : Hid (At w1 V.heap.size g' cap' (j + 1) (nx x k r)) := hown2
                  clear hat2 hown' hown2 hgrow hbel2 hcells
                  go_wp2
                  go_roundw
                  case rel => exact ⟨j + 1, g', cap', by omega, by omega, by go_num, rfl, HAT, hbel3⟩
                  case measure => simp [intOf]; omega
                · obtain rfl : j = k.length + 1 := by omega
                  have HAT2 : Hid (At wr w.heap.size g2 cap2 (k.length + 1) (rows (p.take (q + 1)) k row0)) := by
                    unfold Hid
                    rw [HRT.out]
                    exact at_mono hat2.out hBs
                  have hbel4 : Below w.heap.size w wr := hbel.trans (hbel2.mono hBs)
                  clear hat2 HC2 hat HC hbel2
                  go_wp2
                  go_roundw
                  case rel => exact ⟨q + 1, g2, cap2, by omega, by go_num, rfl, HAT2, hbel4⟩
                  case measure => simp [intOf]; omega
            · have h42 : ¬ x.toList = [42] := fun e => hxs (of_bytes e)
              have HN : Hid (x ≠ hash ∧ x ≠ star) := ⟨hxh, hxs⟩
              have b35 : (x.toList == [35]) = false := by simpa using h35
              have b42 : (x.toList == [42]) = false := by simpa using h42
              clear hxh hxs
              go_wp2
              go_loopw [8, 9] (fun v y wq => ∃ (j g' cap' : Nat), 1 ≤ j ∧ j ≤ k.length + 1 ∧ y = .int .i64 j ∧ v = .slice (some ⟨g', 0, none⟩) j cap' ∧ Hid (At wq V.heap.size g' cap' j (nx x k r)) ∧ Below V.heap.size V wq) (fun _ y _ => k.length + 1 - (intOf y).toNat)
              case atStart => exact ⟨1, V.heap.size, 1, Nat.le_refl _, by omega, rfl, rfl, at_first V false (nx x k r) (by rw [nx_zero, decide_eq_false HN.out.1]; rfl) _ (Nat.le_refl _), (Below.refl _ _).alloc (Nat.le_refl _) _⟩
              case round =>
                obtain ⟨j, g2, cap2, hj1, hj2, rfl, rfl, hat2, hbel2⟩ := hrel
                have hBs2 := hbel2.size
                obtain ⟨hVg, hg2l, hcells2⟩ := at_cells hat2.out (by omega)
                have HC2 : Hid (∀ i, i < j → wr.cell? ⟨g2, i, none⟩ = some (.bool (nx x k r i))) := hcells2
                clear hcells2
                have cx2 : wr.cell? ⟨gp, q, none⟩ = some (.string x) := (hbel2.cell (p := ⟨gp, q, none⟩) (Nat.lt_of_lt_of_le hgp hBs)).trans cx
                by_cases hjk : j ≤ k.length
                · obtain ⟨m, hm⟩ : ∃ m, m + 1 = j := ⟨j - 1, by omega⟩
                  have cr : wr.cell? ⟨g, j - 1, none⟩ = some (.bool (r (j - 1))) := (hbel2.cell (p := ⟨g, j - 1, none⟩) hgl).trans (HC.out (j - 1) (by omega))
                  have ck2 : wr.cell? ⟨gk, j - 1, none⟩ = some (.string (k.getD (j - 1) ByteArray.empty)) := (hbel2.cell (p := ⟨gk, j - 1, none⟩) (Nat.lt_of_lt_of_le hgk hBs)).trans ((HK.out.below hbel hgk).cell (j - 1) (by omega))
                  have hv : nx x k r j = (r (j - 1) && decide (x = k.getD (j - 1) ByteArray.empty)) := by subst hm; rw [nx_other _ _ _ _ HN.out.1, decide_eq_false HN.out.2]; rfl
                  clear hm
                  obtain ⟨y, hy⟩ : ∃ y, k.getD (j - 1) ByteArray.empty = y := ⟨_, rfl⟩
                  rw [hy] at ck2 hv
                  clear hy
                  cases hrj : r (j - 1) with
                  | false =>
                    rw [hrj] at cr hv
                    have HV : Hid (nx x k r j = false) := hv
                    clear hv hrj
                    go_wp2
                    have q1 : IntKind.i64.wrap ((j : Int) - 1) = (j : Int) - 1 := by rw [IntKind.wrap_i64]; omega
                    have q2 : (0 : Int) ≤ (j : Int) - 1 := by omega
                    have q3 : (j : Int) - 1 < (k.length : Int) + 1 := by omega
                    have q5 : (j : Int) - 1 < (k.length : Int) := by omega
                    have q4 : ((j : Int) - 1).toNat = j - 1 := by omega
                    obtain ⟨v', w1, hrun, hown', hgrow, -⟩ := run_append_own (P := Tryz.prog) ((wr.alloc (.cells #[.bool false] 4)).drew) V.heap.size 108 108 4 i0 (.bool false) 1 1 Tryz.underlying108 hi hz0 hz1 hz2 rfl (by decide) _ _ _ (World.ownsRow.alloc hat2.out _) ⟨wr.heap.size, 0, none⟩ 1 1 [.bool false] rfl (cell_one_new (wr) _ _) (by intro u hu; simp at hu; subst hu; rfl) (by unfold maxLen; omega) (by omega) (by simp; omega)
                    have hbel3 : Below V.heap.size V w1 := ((hbel2.alloc hBs2 _).drew).grown hgrow (by simp; omega) (fun k hk => ((World.ownsRow.alloc hat2.out (.cells #[.bool false] 4)).lt k hk).1)
                    have hown2 : w1.ownsRow V.heap.size 4 1 v' (j + 1) (rl (nx x k r) (j + 1)) := by rw [rl_succ, HV.out]; simpa using hown'
                    obtain ⟨g', cap', rfl, hg1, hg2, hcells⟩ := owns_cell hown2 (by omega)
                    have HAT : Hid (At w1 V.heap.size g' cap' (j + 1) (nx x k r)) := hown2
                    clear hown' hown2 hgrow hcells hat2
                    generalize hv8 : Value.slice (some ⟨g2, 0, none⟩) j cap2 = v8 at hrun ⊢
                    clear hv8
                    simp [go_sem] at hrun
                    go_big_region
                    go_wp2
                    go_roundw
                    case rel => exact ⟨j + 1, g', cap', by omega, by omega, by go_num, rfl, HAT, hbel3⟩
                    case measure => simp [intOf]; omega
                  | true =>
                    rw [hrj, Bool.true_and] at hv
                    rw [hrj] at cr
                    have hde : decide (x = y) = (x.toList == y.toList) := by
                      by_cases e : x = y
                      · subst e; simp
                      · have e2 : ¬ x.toList = y.toList := fun h => e (of_same h)
                        rw [decide_eq_false e]; simp [e2]
                    rw [hde] at hv
                    clear hde hrj
                    obtain ⟨bn, hbn⟩ : ∃ bn, (x.toList == y.toList) = bn := ⟨_, rfl⟩
                    rw [hbn] at hv
                    have HV : Hid (nx x k r j = bn) := hv
                    clear hv
                    go_wp2
                    have q1 : IntKind.i64.wrap ((j : Int) - 1) = (j : Int) - 1 := by rw [IntKind.wrap_i64]; omega
                    have q2 : (0 : Int) ≤ (j : Int) - 1 := by omega
                    have q3 : (j : Int) - 1 < (k.length : Int) + 1 := by omega
                    have q5 : (j : Int) - 1 < (k.length : Int) := by omega
                    have q4 : ((j : Int) - 1).toNat = j - 1 := by omega
                    obtain ⟨v', w1, hrun, hown', hgrow, -⟩ := run_append_own (P := Tryz.prog) ((wr.alloc (.cells #[.bool bn] 4)).drew) V.heap.size 108 108 4 i0 (.bool false) 1 1 Tryz.underlying108 hi hz0 hz1 hz2 rfl (by decide) _ _ _ (World.ownsRow.alloc hat2.out _) ⟨wr.heap.size, 0, none⟩ 1 1 [.bool bn] rfl (cell_one_new (wr) _ _) (by intro u hu; simp at hu; subst hu; rfl) (by unfold maxLen; omega) (by omega) (by simp; omega)
                    have hbel3 : Below V.heap.size V w1 := ((hbel2.alloc hBs2 _).drew).grown hgrow (by simp; omega) (fun k hk => ((World.ownsRow.alloc hat2.out (.cells #[.bool bn] 4)).lt k hk).1)
                    have hown2 : w1.ownsRow V.heap.size 4 1 v' (j + 1) (rl (nx x k r) (j + 1)) := by rw [rl_succ, HV.out]; simpa using hown'
                    obtain ⟨g', cap', rfl, hg1, hg2, hcells⟩ := owns_cell hown2 (by omega)
                    have HAT : Hid (At w1 V.heap.size g' cap' (j + 1) (nx x k r)) := hown2
                    clear hown' hown2 hgrow hcells hat2
                    generalize hv8 : Value.slice (some ⟨g2, 0, none⟩) j cap2 = v8 at hrun ⊢
                    clear hv8
                    simp [go_sem] at hrun
                    go_big_region
                    go_wp2
                    go_roundw
                    case rel => exact ⟨j + 1, g', cap', by omega, by omega, by go_num, rfl, HAT, hbel3⟩
                    case measure => simp [intOf]; omega
                · obtain rfl : j = k.length + 1 := by omega
                  have HAT2 : Hid (At wr w.heap.size g2 cap2 (k.length + 1) (rows (p.take (q + 1)) k row0)) := by
                    unfold Hid
                    rw [HRT.out]
                    exact at_mono hat2.out hBs
                  have hbel4 : Below w.heap.size w wr := hbel.trans (hbel2.mono hBs)
                  clear hat2 HC2 hat HC hbel2
                  go_wp2
                  go_roundw
                  case rel => exact ⟨q + 1, g2, cap2, by omega, by go_num, rfl, HAT2, hbel4⟩
                  case measure => simp [intOf]; omega
        · obtain rfl : q = p.length := by omega
          have cl := HC.out k.length (by omega)
          rw [List.take_length] at cl
          have HE : Hid (rows p k row0 k.length = fits p k) := rfl
          obtain ⟨bf, hbf⟩ : ∃ bf, rows p k row0 k.length = bf := ⟨_, rfl⟩
          rw [hbf] at cl
          have HE2 : Hid (bf = fits p k) := hbf.symm.trans HE.out
          clear hbf hat HC HE hcells
          go_wp2
          go_ret
          rw [← HE2.out]
          exact ⟨rfl, hbel⟩
end Go.Proofs.YtnooibeohdfcmaaGreatDoor.ts

/- Route: what it answers. -/
namespace Go.Proofs.YtnooibeohdfcmaaGreatDoor.rta
open Go.ChangeShapes Go.WideShapes Go.ChangeAt Go.RowKit Go.Proofs.YtnooibeohdfcmaaGreatDoor.rr Go.Proofs.YtnooibeohdfcmaaGreatDoor.rc Go.Proofs.YtnooibeohdfcmaaGreatDoor.ro Go.Proofs.YtnooibeohdfcmaaGreatDoor.rtp
set_option linter.unusedVariables false

/-- whether a message goes by a binding of an exchange of that kind -/
def goes (kind : Int) (b : Bi) (key : ByteArray) : Bool := decide (kind = 1) || ((decide (kind = 0) && decide (b.k = key)) || (decide (kind = 2) && tp.topic b.k key))
def hit (kind : Int) (x key : ByteArray) (b : Bi) : Bool := decide (b.x = x) && goes kind b key
def qs (kind : Int) (x key : ByteArray) (bs : List Bi) : List ByteArray := (bs.filter (hit kind x key)).map (·.q)
noncomputable def okr (es : List Ex) (bs : List Bi) : Bool := @decide (OkR es bs) (Classical.propDecidable _)
theorem okr_iff {es : List Ex} {bs : List Bi} : okr es bs = true ↔ OkR es bs := by unfold okr; exact @decide_eq_true_iff _ (Classical.propDecidable _)
theorem okr_of {es : List Ex} {bs : List Bi} {b : Bool} (h : b = true ↔ OkR es bs) : okr es bs = b := by
  cases b with
  | true => exact okr_iff.2 (h.1 rfl)
  | false =>
    cases hh : okr es bs with
    | false => rfl
    | true => have := h.2 (okr_iff.1 hh); cases this
noncomputable def ansL (es : List Ex) (bs : List Bi) (x key : ByteArray) : List ByteArray :=
  if (okr es bs && ky.good key) = true then (if x = ⟨#[]⟩ then [key] else if kindOf es x < 0 then [] else puts (qs (kindOf es x) x key bs)) else []
noncomputable def ansB (es : List Ex) (bs : List Bi) (x key : ByteArray) : Bool := (okr es bs && ky.good key) && (decide (x = ⟨#[]⟩) || !decide (kindOf es x < 0))
section
variable {es : List Ex} {bs : List Bi} {x key : ByteArray}
theorem ans_bad (h : (okr es bs && ky.good key) = false) : ansL es bs x key = [] ∧ ansB es bs x key = false := by
  unfold ansL ansB
  rw [h]
  exact ⟨rfl, rfl⟩
theorem ans_self (h : (okr es bs && ky.good key) = true) (hx : x = ⟨#[]⟩) : ansL es bs x key = [key] ∧ ansB es bs x key = true := by
  unfold ansL ansB
  rw [h, if_pos rfl, if_pos hx, decide_eq_true hx]
  exact ⟨rfl, rfl⟩
theorem ans_none (h : (okr es bs && ky.good key) = true) (hx : x ≠ ⟨#[]⟩) (hk : kindOf es x < 0) : ansL es bs x key = [] ∧ ansB es bs x key = false := by
  unfold ansL ansB
  rw [h, if_pos rfl, if_neg hx, if_pos hk, decide_eq_false hx, decide_eq_true hk]
  exact ⟨rfl, rfl⟩
theorem ans_some (h : (okr es bs && ky.good key) = true) (hx : x ≠ ⟨#[]⟩) (hk : ¬ kindOf es x < 0) : ansL es bs x key = puts (qs (kindOf es x) x key bs) ∧ ansB es bs x key = true := by
  unfold ansL ansB
  rw [h, if_pos rfl, if_neg hx, if_neg hk, decide_eq_false hx, decide_eq_false hk]
  exact ⟨rfl, rfl⟩
end
theorem qs_no {kind : Int} {x key : ByteArray} {bs : List Bi} {k : Nat} {b : Bi} (h : bs[k]? = some b) (hk : hit kind x key b = false) : qs kind x key (bs.take (k + 1)) = qs kind x key (bs.take k) := by
  unfold qs
  rw [List.take_add_one, List.filter_append, h]
  simp [hk]
theorem qs_yes {kind : Int} {x key : ByteArray} {bs : List Bi} {k : Nat} {b : Bi} (h : bs[k]? = some b) (hk : hit kind x key b = true) : qs kind x key (bs.take (k + 1)) = qs kind x key (bs.take k) ++ [b.q] := by
  unfold qs
  rw [List.take_add_one, List.filter_append, h]
  simp [hk]
theorem qs_len (kind : Int) (x key : ByteArray) (bs : List Bi) : (qs kind x key bs).length ≤ bs.length := by
  unfold qs
  rw [List.length_map]
  exact List.length_filter_le _ _
end Go.Proofs.YtnooibeohdfcmaaGreatDoor.rta

/- strings.Split at a dot: the words between the dots, in a new row, at every text of at most 1048576 bytes. -/
namespace Go.Proofs.YtnooibeohdfcmaaGreatDoor.dt
open Go.ChangeShapes Go.WideShapes Go.ChangeAt Go.RowKit Go.Proofs.YtnooibeohdfcmaaGreatDoor.sm

theorem split (s : ByteArray) (m : Int) (w : World) (hs : s.size ≤ 1048576) (hm : w.cell? ⟨0, 0, none⟩ = some (.int .i64 m)) :
    Calls Tryz.prog 74 #[.string s, .string ⟨#[46]⟩] w fun e w' => e = .returned (.slice (some ⟨w.heap.size, 0, none⟩) (left s 0).length (left s 0).length) ∧ w' = w.alloc (.cells ((left s 0).map Value.string).toArray 9) := by
  rw [words_length, left_zero]
  exact Any.strings_Split { shSplitLaid.laysM146 with } shSplitLaid.laysM146.i9 s sp m w (by omega) hm (by decide)

end Go.Proofs.YtnooibeohdfcmaaGreatDoor.dt
