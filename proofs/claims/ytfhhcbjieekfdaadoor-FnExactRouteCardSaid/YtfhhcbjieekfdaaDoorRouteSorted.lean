/- slices.Sort and slices.Compact of texts in a row of its own. -/
import Derived.Test.YtfhhcbjieekfdaaDoorRouteKept
import Derived.Test.YtfhhcbjieekfdaaDoorRouteUniq
import Derived.Test.YtfhhcbjieekfdaaDoorSortLaidS
import Derived.Lib.OwnBridge
import Derived.Sort.OwnSorted
import Derived.Sort.Grow
namespace Go.Proofs.YtfhhcbjieekfdaaDoor.rts
open Go.ChangeShapes Go.WideShapes Go.ChangeAt Go.RowKit Go.Sort Go.Proofs.YtfhhcbjieekfdaaDoor.fl Go.Proofs.YtfhhcbjieekfdaaDoor.ptt Go.Proofs.YtfhhcbjieekfdaaDoor.rtp Go.Proofs.YtfhhcbjieekfdaaDoor.rtk Go.Proofs.YtfhhcbjieekfdaaDoor.rtu
set_option linter.unusedVariables false

theorem cells_eq (L : List ByteArray) : L.flatMap cS = (bt L).map encStr := by
  unfold bt
  rw [Lib.map_encStr]
  induction L with
  | nil => rfl
  | cons a l ih => rw [List.flatMap_cons, List.map_cons, ih]; rfl
theorem bt_len (L : List ByteArray) : (bt L).length = L.length := by simp [bt]
theorem sort_S (ss : List (List UInt8)) (g cap B : Nat) (w : World) (ho : w.ownsRow B 9 1 (.slice (some ⟨g, 0, none⟩) ss.length cap) ss.length (ss.map encStr)) (hl : ss.length ≤ 1048576) (hB : B ≤ w.heap.size) :
    Calls Tryd.prog 27 #[.slice (some ⟨g, 0, none⟩) ss.length cap] w fun e w' => e = .returned (.tuple #[]) ∧ w'.ownsRow B 9 1 (.slice (some ⟨g, 0, none⟩) ss.length cap) ss.length ((ss.mergeSort fun x y => decide (x ≤ y)).map encStr) ∧ Below B w w' := by
  obtain ⟨g', cap', e0, hb, hgl, _, _, _, hH⟩ := Lib.holds_of_ownsRow ho (by simp)
  cases e0
  refine (shSortLaidS.slices_Sort_string g 0 cap ss w hH hgl (by omega)).mono ?_
  rintro e w' ⟨rfl, n, os, rfl⟩
  obtain ⟨_, ⟨e1, _⟩ | ⟨g', cap', cur, hv, hbase, hblk, h1, h2, h3, h4⟩⟩ := ho
  · cases e1
  cases hv
  exact ⟨rfl, ownsRow_sorted (by simp) hbase hblk h1 h2 h3, (Below.refl B w).grown (grownBy_sorted _) hB (fun k hk => by cases hk; exact hbase)⟩
theorem compact_S (zs : List (List UInt8)) (g cap B : Nat) (w : World) (ho : w.ownsRow B 9 1 (.slice (some ⟨g, 0, none⟩) zs.length cap) zs.length (zs.map encStr)) (hl : zs.length ≤ 1048576) :
    Calls Tryd.prog 28 #[.slice (some ⟨g, 0, none⟩) zs.length cap] w fun e w' => e = .returned (.slice (some ⟨g, 0, none⟩) (Lib.compact zs).length cap) ∧ w'.ownsRow B 9 1 (.slice (some ⟨g, 0, none⟩) (Lib.compact zs).length cap) (Lib.compact zs).length ((Lib.compact zs).map encStr) ∧ Below B w w' := by
  obtain ⟨g', cap', e0, hb, hgl, hc, _, _, hH⟩ := Lib.holds_of_ownsRow ho (by simp)
  cases e0
  have hle := Lib.compact_length_le zs
  refine (shSortLaidS.slices_Compact_string g 0 cap zs w hH (by omega) hc).mono ?_
  rintro e w' ⟨rfl, q, rfl⟩
  have h := Lib.ownsRow_putRow (q := q) (k := (Lib.compact zs).length) (ys := Lib.compact zs ++ List.replicate (zs.length - (Lib.compact zs).length) []) ho (by simp; omega) hle
  rw [List.take_left] at h
  exact ⟨rfl, h, Lib.below_putRow (Below.refl B w) hb⟩
/-- the queues, sorted -/
def srt (L : List ByteArray) : List (List UInt8) := (bt L).mergeSort fun x y => decide (x ≤ y)
theorem srt_len (L : List ByteArray) : (srt L).length = L.length := by unfold srt; rw [List.length_mergeSort, bt_len]
theorem sort_texts (L : List ByteArray) (g cap B : Nat) (w : World) (ho : w.ownsRow B 9 1 (.slice (some ⟨g, 0, none⟩) L.length cap) L.length (L.flatMap cS)) (hl : L.length ≤ 1048576) (hB : B ≤ w.heap.size) :
    Calls Tryd.prog 27 #[.slice (some ⟨g, 0, none⟩) L.length cap] w fun e w' => e = .returned (.tuple #[]) ∧ w'.ownsRow B 9 1 (.slice (some ⟨g, 0, none⟩) L.length cap) L.length ((srt L).map encStr) ∧ Below B w w' := by
  rw [cells_eq, ← bt_len L] at ho
  have := sort_S (bt L) g cap B w ho (by rw [bt_len]; exact hl) hB
  rw [bt_len] at this
  exact this
theorem compact_texts (L : List ByteArray) (g cap B : Nat) (w : World) (ho : w.ownsRow B 9 1 (.slice (some ⟨g, 0, none⟩) L.length cap) L.length ((srt L).map encStr)) (hl : L.length ≤ 1048576) :
    Calls Tryd.prog 28 #[.slice (some ⟨g, 0, none⟩) L.length cap] w fun e w' => e = .returned (.slice (some ⟨g, 0, none⟩) (puts L).length cap) ∧ w'.ownsRow B 9 1 (.slice (some ⟨g, 0, none⟩) (puts L).length cap) (puts L).length ((puts L).flatMap cS) ∧ Below B w w' := by
  rw [← srt_len L] at ho
  have h := compact_S (srt L) g cap B w ho (by rw [srt_len]; exact hl)
  have hu : Lib.compact (srt L) = bt (puts L) := uniq L
  rw [srt_len, hu, bt_len, ← cells_eq] at h
  exact h
end Go.Proofs.YtfhhcbjieekfdaaDoor.rts
