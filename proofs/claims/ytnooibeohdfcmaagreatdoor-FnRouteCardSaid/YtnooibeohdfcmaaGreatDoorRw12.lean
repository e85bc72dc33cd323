/- What it is for the words of a pattern to stand for the words of a key: a row of bits for each word of the pattern; its laws. -/
import Derived.Test.YtnooibeohdfcmaaGreatDoorRw11
import Derived.Test.YtnooibeohdfcmaaGreatDoorRows
import Derived.WalkKit
import Derived.WalkLawsBesides
import Derived.WalkSpells
import Derived.ProofKit
import Derived.OpenShut
import Derived.ShutString
import Derived.Laws.BytesArg
import Derived.Lib.ItoaNum
import Derived.Lib.Strings
import Derived.Deep.RegionWith
import Derived.Lib.SplitLaws
import Derived.OwnWalk
import Derived.Test.YtnooibeohdfcmaaGreatDoorKeyWalks

/- Rows of texts: what the laws' own functions eqStringS, markStringS and heldStringS do with them. -/
namespace Go.Proofs.YtnooibeohdfcmaaGreatDoor.sm
open Go.ChangeShapes Go.WideShapes Go.ChangeAt Go.RowKit

/-- block g is a row that begins with the texts l -/
def Has (w : World) (g cap : Nat) (l : List ByteArray) : Prop :=
  ∃ cur, w.heap[g]? = some (.cells cur 9 (0, 0)) ∧ l.length ≤ cap ∧ cur.size = cap ∧ cur.toList.take l.length = l.map Value.string

theorem Has.cell {w : World} {g cap : Nat} {l : List ByteArray} (h : Has w g cap l) (i : Nat) (hi : i < l.length) : w.cell? ⟨g, i, none⟩ = some (.string (l.getD i ByteArray.empty)) := by
  obtain ⟨cur, hg, hl, hc, ht⟩ := h
  have h1 : cur.toList[i]? = some (.string l[i]) := by
    have := congrArg (fun x => x[i]?) ht
    simp only [List.getElem?_take_of_lt hi, List.getElem?_map, List.getElem?_eq_getElem hi, Option.map_some] at this
    exact this
  have h2 : cur[i]? = some (.string l[i]) := by rw [← Array.getElem?_toList]; exact h1
  simp [World.cell?, hg, h2, List.getD, List.getElem?_eq_getElem hi]
theorem Has.frozen {w : World} {g cap : Nat} {l : List ByteArray} (h : Has w g cap l) (i : Nat) : w.frozen? ⟨g, i, none⟩ = false := by
  obtain ⟨cur, hg, _⟩ := h
  simp [World.frozen?, hg]
theorem Has.lt {w : World} {g cap : Nat} {l : List ByteArray} (h : Has w g cap l) : g < w.heap.size := by
  obtain ⟨cur, hg, _⟩ := h
  exact (Array.getElem?_eq_some_iff.1 hg).1
theorem Has.below {w w' : World} {g cap B : Nat} {l : List ByteArray} (h : Has w g cap l) (hb : Below B w w') (hg : g < B) : Has w' g cap l := by
  obtain ⟨cur, h1, h2⟩ := h
  exact ⟨cur, by rw [hb.block g hg]; exact h1, h2⟩
theorem Has.set {w : World} {g cap : Nat} {l : List ByteArray} (h : Has w g cap l) (i : Nat) (x : ByteArray) : Has (w.setCell ⟨g, i, none⟩ (.string x)) g cap (l.set i x) := by
  obtain ⟨cur, h1, h2, h3, h4⟩ := h
  refine ⟨cur.setIfInBounds i (.string x), heap_setCell_same w g i cur _ _ h1, by simpa using h2, by simpa using h3, ?_⟩
  rw [List.length_set, Array.toList_setIfInBounds, List.take_set, h4, List.map_set]
theorem Has.drew {w : World} {g cap : Nat} {l : List ByteArray} (h : Has w g cap l) : Has w.drew g cap l := h


end Go.Proofs.YtnooibeohdfcmaaGreatDoor.sm

/- The words of a key, between its dots: the specification's splitter and strings.Split lay the same texts in a new row each, at every text of at most 1048576 bytes. -/
namespace Go.Proofs.YtnooibeohdfcmaaGreatDoor.dt
open Go.ChangeShapes Go.WideShapes Go.ChangeAt Go.RowKit Go.Proofs.YtnooibeohdfcmaaGreatDoor.sm

def sp : ByteArray := ⟨#[46]⟩
/-- the words of s from place f on -/
def left (s : ByteArray) (f : Nat) : List ByteArray := Lib.splitB sp 0 (Lib.countB (s.extract f s.size) sp) (s.extract f s.size)

theorem idx_miss (l : List UInt8) (h : ∀ k : Nat, l[k]? ≠ some 46) : Lib.indexByte l 46 = -1 := by
  have hge := Lib.indexByte_ge l 46
  by_cases hm : Lib.indexByte l 46 = -1
  · exact hm
  · have : Lib.indexByte l 46 = ((Lib.indexByte l 46).toNat : Int) := by omega
    exact absurd (Lib.indexByte_some this).1 (h _)
theorem idx_hit (l : List UInt8) (o : Nat) (h0 : l[o]? = some 46) (h : ∀ k : Nat, k < o → l[k]? ≠ some 46) : Lib.indexByte l 46 = o := by
  have hge := Lib.indexByte_ge l 46
  by_cases hm : Lib.indexByte l 46 = -1
  · exact absurd h0 (Lib.indexByte_none hm o)
  · have e : Lib.indexByte l 46 = ((Lib.indexByte l 46).toNat : Int) := by omega
    obtain ⟨h1, h2⟩ := Lib.indexByte_some e
    rcases Nat.lt_trichotomy (Lib.indexByte l 46).toNat o with hlt | heq | hgt
    · exact absurd h1 (h _ hlt)
    · omega
    · exact absurd h0 (h2 _ hgt)
theorem indexB_sp (s : ByteArray) : Lib.indexB s sp = Lib.indexByte s.data.toList 46 := by
  show Lib.index s.data.toList [46] = _
  exact Lib.index_one _ _

theorem rest_at (s : ByteArray) (f k : Nat) : (s.extract f s.size).data.toList[k]? = s.data.toList[f + k]? := by
  rw [Lib.extract_to_end, List.getElem?_drop]
theorem at_byte (s : ByteArray) (k : Nat) (h : k < s.size) : s.data.toList[k]? = some s[k] := Lib.data_getElem? s k h
theorem at_out (s : ByteArray) (k : Nat) (h : s.size ≤ k) : s.data.toList[k]? = none := List.getElem?_eq_none (by simpa using h)

/-- no blank from f up to i -/
def Clear (s : ByteArray) (f i : Nat) : Prop := ∀ k : Nat, f ≤ k → k < i → s.data.toList[k]? ≠ some 46

theorem left_hit (s : ByteArray) (f i : Nat) (hfi : f ≤ i) (hi : i < s.size) (h32 : s[i] = 46) (hno : Clear s f i) : left s f = s.extract f i :: left s (i + 1) := by
  have hix : Lib.indexB (s.extract f s.size) sp = ((i - f : Nat) : Int) := by
    rw [indexB_sp]
    refine idx_hit _ _ ?_ ?_
    · rw [rest_at, show f + (i - f) = i by omega, at_byte s i hi, h32]
    · intro k hk
      rw [rest_at]
      exact hno _ (by omega) (by omega)
  have e1 : (s.extract f s.size).extract (i - f + sp.size) (s.extract f s.size).size = s.extract (i + 1) s.size := by
    apply ByteArray.ext
    apply Array.toList_inj.1
    rw [Lib.extract_to_end, Lib.extract_to_end, Lib.extract_to_end, List.drop_drop]
    congr 1
    have : sp.size = 1 := rfl
    omega
  have e2 : (s.extract f s.size).extract 0 (i - f + 0) = s.extract f i := by
    apply ByteArray.ext
    apply Array.toList_inj.1
    rw [Lib.extract_data, Lib.extract_data, Lib.extract_data, List.drop_zero]
    simp only [Nat.add_zero, Nat.sub_zero]
    rw [List.take_take]
    congr 1
    omega
  have hsp1 : 1 ≤ sp.size := by decide
  unfold left
  rw [Lib.countB_hit _ _ _ hsp1 hix, e1, Nat.add_comm, Lib.splitB_hit _ _ _ _ _ hix, e1, e2]

theorem left_end (s : ByteArray) (f : Nat) (hno : Clear s f s.size) : left s f = [s.extract f s.size] := by
  have hix : Lib.indexB (s.extract f s.size) sp = -1 := by
    rw [indexB_sp]
    refine idx_miss _ fun k => ?_
    rw [rest_at]
    by_cases h : f + k < s.size
    · exact hno _ (by omega) h
    · rw [at_out s _ (by omega)]
      simp
  unfold left
  exact Lib.splitB_miss _ _ _ _ hix

theorem left_zero (s : ByteArray) : left s 0 = Lib.splitB sp 0 (Lib.countB s sp) s := by
  have : s.extract 0 s.size = s := by
    apply ByteArray.ext
    apply Array.toList_inj.1
    rw [Lib.extract_to_end, List.drop_zero]
  unfold left
  rw [this]

theorem left_length : ∀ (k : Nat) (s : ByteArray), Lib.countB s sp = k → (Lib.splitB sp 0 k s).length = k + 1
  | 0, s, _ => rfl
  | k + 1, s, h => by
    have hge := Lib.index_ge s.data.toList sp.data.toList
    by_cases hm : Lib.indexB s sp = -1
    · rw [Lib.countB_miss _ _ hm] at h
      cases h
    · have e : Lib.indexB s sp = ((Lib.indexB s sp).toNat : Int) := by
        have : -1 ≤ Lib.indexB s sp := hge
        omega
      rw [Lib.countB_hit _ _ _ (by decide) e] at h
      rw [Lib.splitB_hit _ _ _ _ _ e, List.length_cons, left_length k _ (by omega)]
theorem words_length (s : ByteArray) : (left s 0).length = Lib.countB s sp + 1 := by rw [left_zero]; exact left_length _ s rfl
theorem count_le (s : ByteArray) : Lib.countB s sp ≤ s.size := Lib.countB_le sp (by decide) s.size s (Nat.le_refl _)

theorem info9 : (Tryz.prog.info? 9).map (fun i => (i.zero, i.size, i.bytes)) = some (some (.string ByteArray.empty), 1, 16) := by kernel_rfl

theorem has_of_owns {w : World} {base : Nat} {v : Value} {l : List ByteArray} (h : w.ownsRow base 9 1 v l.length (l.map Value.string)) (hne : l ≠ []) : ∃ g cap, v = .slice (some ⟨g, 0, none⟩) l.length cap ∧ base ≤ g ∧ Has w g cap l := by
  obtain ⟨_, h⟩ := h
  rcases h with ⟨_, h0⟩ | ⟨g, cap, cur, hv, hb, hg, h1, _, h2, h3⟩
  · exact absurd (List.length_eq_zero_iff.1 h0) hne
  · exact ⟨g, cap, hv, hb, cur, hg, h1, by simpa using h2, by simpa using h3⟩

theorem spec_split (s : ByteArray) (w : World) (hs : s.size ≤ 1048576) :
    Calls Tryz.prog 63 #[.string s] w fun e w' => ∃ g cap, e = .returned (.slice (some ⟨g, 0, none⟩) (left s 0).length cap) ∧ w.heap.size ≤ g ∧ Has w' g cap (left s 0) ∧ Below w.heap.size w w' := by
  obtain ⟨i0, hi, hz0, hz1, hz2⟩ := info_parts info9
  go_enter Tryz.func63, Tryz.ntmps63
  go_wp2
  go_loopw [3, 4, 5] (fun v x y wr => ∃ (acc : List ByteArray) (f i : Nat), f ≤ i ∧ i ≤ s.size ∧ acc.length ≤ f ∧ x = .int .i64 f ∧ y = .int .i64 i ∧ wr.ownsRow w.heap.size 9 1 v acc.length (acc.map Value.string) ∧ Below w.heap.size w wr ∧ Hid (acc ++ left s f = left s 0) ∧ Hid (Clear s f i)) (fun _ _ y _ => s.size - (intOf y).toNat)
  case atStart => exact ⟨[], 0, 0, Nat.le_refl _, Nat.zero_le _, Nat.le_refl _, rfl, rfl, World.ownsRow_made w _ 0 (Nat.le_refl _) (Nat.zero_le _) rfl, (Below.refl _ _).alloc (Nat.le_refl _) _, rfl, fun k h1 h2 => by omega⟩
  case round =>
    obtain ⟨acc, f, i, hfi, his, hacc, rfl, rfl, hown, hbel, hleft, hclear⟩ := hrel
    have hBs := hbel.size
    by_cases hiz : i < s.size
    · by_cases h32 : s[i] = 46
      · have hb : (((s[i].toNat : Nat) : Int) == 46) = true := by rw [h32]; rfl
        have hsl := fun W => run_slice_string (P := Tryz.prog) W 9 s .i64 .i64 (f : Int) (i : Int) Tryz.underlying9 (by omega) (by omega) (by omega)
        go_wp2_with (at_builtin; refine wpList_append_own _ rfl _ _ 30 rfl w.heap.size 9 i0 (.string ByteArray.empty) 1 16 Tryz.underlying30 hi hz0 hz1 hz2 rfl (by decide) _ _ _ rfl (hown.alloc _) ⟨wr.heap.size, 0, none⟩ 1 1 [.string (s.extract f i)] rfl rfl ?c1 ?c2 ?c3 ?c4 ?c5 ?_)
        case c1 => exact cell_one_new _ _ _
        case c2 => intro u hu; simp at hu; subst hu; rfl
        case c3 => unfold maxLen; omega
        case c4 => omega
        case c5 => simp; omega
        intro v' w1 hown' hgrow _
        have hbel' : Below w.heap.size w w1 := (hbel.alloc hBs _).grown hgrow (by simp; omega) (fun k hk => ((hown.alloc (.cells #[.string (s.extract f i)] 9)).lt k hk).1)
        have hown2 : w1.ownsRow w.heap.size 9 1 v' (acc ++ [s.extract f i]).length ((acc ++ [s.extract f i]).map Value.string) := by simpa using hown'
        have hleft' : Hid ((acc ++ [s.extract f i]) ++ left s (i + 1) = left s 0) := by
          unfold Hid
          rw [← hleft.out, left_hit s f i hfi hiz h32 hclear.out]
          simp
        clear hown hown' hgrow hbel hleft hclear hsl
        go_wp2
        go_roundw
        case rel => exact ⟨acc ++ [s.extract f i], i + 1, i + 1, Nat.le_refl _, by omega, by simp; omega, by go_num, by go_num, hown2, hbel', hleft', fun k h1 h2 => by omega⟩
        case measure => simp [intOf]; omega
      · have hb : (((s[i].toNat : Nat) : Int) == 46) = false := by
          simp only [beq_eq_false_iff_ne, ne_eq]
          intro h
          have hn : s[i].toNat = 46 := by omega
          exact h32 (UInt8.toNat_inj.1 (hn.trans rfl))
        have hclear' : Hid (Clear s f (i + 1)) := by
          intro k h1 h2
          by_cases e : k = i
          · subst e
            rw [at_byte s k hiz]
            intro h
            exact h32 (Option.some.inj h)
          · exact hclear.out k h1 (by omega)
        clear hclear
        go_wp2
        go_roundw
        case rel => exact ⟨acc, f, i + 1, by omega, by omega, hacc, rfl, by go_num, hown, hbel, hleft, hclear'⟩
        case measure => simp [intOf]; omega
    · obtain rfl : i = s.size := by omega
      have hend : Hid (left s f = [s.extract f s.size]) := left_end s f hclear.out
      go_wp2_with (at_builtin; refine wpList_append_own _ rfl _ _ 30 rfl w.heap.size 9 i0 (.string ByteArray.empty) 1 16 Tryz.underlying30 hi hz0 hz1 hz2 rfl (by decide) _ _ _ rfl (hown.alloc _) ⟨wr.heap.size, 0, none⟩ 1 1 [.string (s.extract f s.size)] rfl rfl ?d1 ?d2 ?d3 ?d4 ?d5 ?_)
      case d1 => exact cell_one_new _ _ _
      case d2 => intro u hu; simp at hu; subst hu; rfl
      case d3 => unfold maxLen; omega
      case d4 => omega
      case d5 => simp; omega
      intro v' w1 hown' hgrow _
      have hbel' : Below w.heap.size w w1 := (hbel.alloc hBs _).grown hgrow (by simp; omega) (fun k hk => ((hown.alloc (.cells #[.string (s.extract f s.size)] 9)).lt k hk).1)
      have hall : acc ++ [s.extract f s.size] = left s 0 := by rw [← hleft.out, hend.out]
      have hown2 : w1.ownsRow w.heap.size 9 1 v' (left s 0).length ((left s 0).map Value.string) := by rw [← hall]; simpa using hown'
      obtain ⟨g, cap, hv, hg, hhas⟩ := has_of_owns hown2 (by rw [← hall]; simp)
      rw [hv]
      clear hown hown' hgrow hbel hleft hclear hown2 hall hend hv
      go_wp2
      go_ret
      exact ⟨g, cap, rfl, hg, hhas, hbel'⟩

theorem has_made (w : World) (l : List ByteArray) : Has (w.alloc (.cells (l.map Value.string).toArray 9)) w.heap.size l.length l :=
  ⟨_, heap_alloc_new w _, Nat.le_refl _, by simp, List.take_of_length_le (by simp)⟩

end Go.Proofs.YtnooibeohdfcmaaGreatDoor.dt

/- What it is for the words of a pattern to stand for the words of a key: a row of bits for each word of the pattern; its laws. -/
namespace Go.Proofs.YtnooibeohdfcmaaGreatDoor.tp

def hash : ByteArray := ⟨#[35]⟩
def star : ByteArray := ⟨#[42]⟩

/-- the bit at j behind one word p more -/
def nx (p : ByteArray) (k : List ByteArray) (row : Nat → Bool) : Nat → Bool
  | 0 => decide (p = hash) && row 0
  | j + 1 => if p = hash then row (j + 1) || nx p k row j else row j && (decide (p = star) || decide (p = k.getD j ByteArray.empty))
def row0 (j : Nat) : Bool := decide (j = 0)
def rows (ps k : List ByteArray) (row : Nat → Bool) : Nat → Bool := ps.foldl (fun r p => nx p k r) row
/-- the words ps stand for the words k -/
def fits (ps k : List ByteArray) : Bool := rows ps k row0 k.length
def topic (p k : ByteArray) : Bool := ky.good p && ky.good k && fits (dt.left p 0) (dt.left k 0)

theorem rows_append (ps qs k : List ByteArray) (row : Nat → Bool) : rows (ps ++ qs) k row = rows qs k (rows ps k row) := List.foldl_append
theorem rows_take (ps k : List ByteArray) (row : Nat → Bool) (i : Nat) (hi : i < ps.length) : rows (ps.take (i + 1)) k row = nx (ps.getD i ByteArray.empty) k (rows (ps.take i) k row) := by
  rw [List.take_add_one, List.getElem?_eq_getElem hi, Option.toList_some, rows_append]
  simp [rows, List.getD, List.getElem?_eq_getElem hi]
theorem nx_zero (p : ByteArray) (k : List ByteArray) (row : Nat → Bool) : nx p k row 0 = (decide (p = hash) && row 0) := rfl
theorem nx_hash (k : List ByteArray) (row : Nat → Bool) (j : Nat) : nx hash k row (j + 1) = (row (j + 1) || nx hash k row j) := by
  show (if hash = hash then _ else _) = _
  rw [if_pos rfl]
theorem nx_other (p : ByteArray) (k : List ByteArray) (row : Nat → Bool) (j : Nat) (h : p ≠ hash) : nx p k row (j + 1) = (row j && (decide (p = star) || decide (p = k.getD j ByteArray.empty))) := by
  show (if p = hash then _ else _) = _
  rw [if_neg h]
theorem nx_star (k : List ByteArray) (row : Nat → Bool) (j : Nat) : nx star k row (j + 1) = row j := by
  rw [nx_other _ _ _ _ (by decide)]; simp
end Go.Proofs.YtnooibeohdfcmaaGreatDoor.tp
