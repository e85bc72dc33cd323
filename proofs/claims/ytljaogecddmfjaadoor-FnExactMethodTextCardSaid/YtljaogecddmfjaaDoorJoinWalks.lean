/- The library's strings.Join of at least two short words with a blank between two; new memory alone. -/
import Derived.Test.YtljaogecddmfjaaDoorJoinBuilder
import Derived.Test.YtljaogecddmfjaaDoorMethodTextSpec
namespace Go.Proofs.YtljaogecddmfjaaDoor.jw
set_option linter.unusedVariables false
open Go.ChangeShapes Go.WideShapes Go.ChangeAt Go.RowKit Go.Proofs.YtljaogecddmfjaaDoor.mx

def cellsOf (s : ByteArray) : List Value := Lib.strCells s
theorem cells_app (a b : ByteArray) : Lib.strCells a ++ Lib.strCells b = Lib.strCells (a ++ b) := by simp [Lib.strCells]
theorem cells_byte (a : ByteArray) : Lib.strCells a = Lib.byteCells a.data.toList := rfl
theorem rest_snoc (l : List ByteArray) (x : ByteArray) : rest (l ++ [x]) = rest l ++ (⟨#[32]⟩ ++ x) := by
  induction l with
  | nil =>
    simp only [List.nil_append, rest]
    apply ByteArray.ext
    apply Array.toList_inj.1
    simp
  | cons y l ih => simp only [List.cons_append, rest, ih, ByteArray.append_assoc]
theorem rest_size (l : List ByteArray) (h : ∀ x ∈ l, x.size ≤ 1000) : (rest l).size ≤ 1001 * l.length := by
  induction l with
  | nil => simp [rest]
  | cons y l ih =>
    have h1 := ih fun x hx => h x (by simp [hx])
    have h2 := h y (by simp)
    have h3 : (⟨#[32]⟩ : ByteArray).size = 1 := rfl
    simp only [rest, ByteArray.size_append, List.length_cons]
    omega

set_option maxRecDepth 100000 in
set_option maxHeartbeats 2000000 in
theorem join (x0 : ByteArray) (r : List ByteArray) (bk c : Nat) (w : World) (hcells : ∀ (j : Nat) x, (x0 :: r)[j]? = some x → w.cell? ⟨bk, j, none⟩ = some (.string x)) (hbk : bk < w.heap.size) (h1 : 1 ≤ r.length) (hr : r.length ≤ 100) (h0 : x0.size ≤ 1000) (hx : ∀ x ∈ r, x.size ≤ 1000) (hc : r.length + 1 ≤ c) :
    Calls Tryd.prog 46 #[.slice (some ⟨bk, 0, none⟩) (r.length + 1) c, .string ⟨#[32]⟩] w fun e w' => e = .returned (.string (x0 ++ rest r)) ∧ Below w.heap.size w w' := by
  have HC : Hid (∀ (j : Nat) x, (x0 :: r)[j]? = some x → w.cell? ⟨bk, j, none⟩ = some (.string x)) := hcells
  have HX : Hid (∀ x ∈ r, x.size ≤ 1000) := hx
  have hq : (2 : Int) ≤ 9223372036854775807 / (r.length : Int) := by
    rw [Int.le_ediv_iff_mul_le (by omega)]
    omega
  have hq2 : ¬ (9223372036854775807 / (r.length : Int) ≤ 1) := by omega
  have k0 : w.cell? ⟨bk, 0, none⟩ = some (.string x0) := HC.out 0 x0 rfl
  have hne0 : ((r.length : Int) + 1 == 0) = false := beq_eq_false_iff_ne.2 (by omega)
  have hne1 : ((r.length : Int) + 1 == 1) = false := beq_eq_false_iff_ne.2 (by omega)
  clear hcells hx
  go_enter Tryd.func46, Tryd.ntmps46
  go_wp2
  go_loopw [5, 41] (fun n i wr => ∃ k m : Nat, k ≤ r.length + 1 ∧ i = .int .i64 k ∧ n = .int .i64 m ∧ 1 ≤ m ∧ m ≤ 100 + 1000 * k ∧ wr = w) (fun _ i _ => r.length + 1 - (intOf i).toNat)
  case atStart => exact ⟨0, r.length, by omega, rfl, by go_num, by omega, by omega, rfl⟩
  case round =>
    obtain ⟨k, m, hk, rfl, rfl, hm1, hm2, rfl⟩ := hrel
    by_cases hkl : k < r.length + 1
    · obtain ⟨x, hxx⟩ : ∃ x, (x0 :: r)[k]? = some x := ⟨_, List.getElem?_eq_getElem (by simpa using hkl)⟩
      have ck := HC.out k x hxx
      have hxs : x.size ≤ 1000 := by
        have hm := List.mem_of_getElem? hxx
        simp at hm
        rcases hm with rfl | hm
        · exact h0
        · exact HX.out x hm
      clear hxx
      go_wp2
      go_roundw
      case rel => exact ⟨k + 1, m + x.size, by omega, by go_num, by go_num, by omega, by omega, by trivial⟩
      case measure => simp [intOf]; omega
    · obtain rfl : k = r.length + 1 := by omega
      clear hkl hk hne0 hne1 hq hq2
      have hal : Below wr.heap.size wr (wr.alloc (.cells #[.pointer none, .slice none 0 0] 106)) := (Below.refl _ _).alloc (Nat.le_refl _) _
      have hgr := jb.growN wr.heap.size wr.heap.size m (wr.alloc (.cells #[.pointer none, .slice none 0 0] 106)) (heap_alloc_new wr _) (Nat.le_refl _) (by simp) (by omega) (by omega)
      clear k0
      go_wp2_with fail
      refine hgr.mono ?_
      rintro e w1 ⟨rfl, hB1, hb1⟩
      have hbw1 := hal.trans hb1
      have k0 : w1.cell? ⟨bk, 0, none⟩ = some (.string x0) := (hbw1.cell (p := ⟨bk, 0, none⟩) hbk).trans (HC.out 0 x0 rfl)
      have hw1 := jb.writeS wr.heap.size wr.heap.size [] x0 w1 hB1 (by simp; omega) hbw1.size
      clear hgr hB1
      go_wp2_with fail
      refine hw1.mono ?_
      rintro e w2 ⟨rfl, hB2, hb2⟩
      have hbw2 := hbw1.trans hb2
      have HB2 : Hid (Lib.BuilderAt 106 5 wr.heap.size wr.heap.size (.pointer (some ⟨wr.heap.size, 0, none⟩)) (Lib.strCells (x0 ++ rest (r.take 0))) w2) := by
        unfold Hid
        simpa [rest] using hB2
      clear hB2 hw1 hal hb1 k0
      go_wp2
      obtain ⟨B, hBe⟩ : ∃ B, wr.heap.size = B := ⟨_, rfl⟩
      rw [hBe] at HB2 hbw2 hbk ⊢
      clear hbw1 hb2
      obtain ⟨v0, rfl⟩ : ∃ v0, v0 = wr := ⟨wr, rfl⟩
      go_loopw [10, 65] (fun _ i wx => ∃ k : Nat, k ≤ r.length ∧ i = .int .i64 k ∧ Hid (Lib.BuilderAt 106 5 B B (.pointer (some ⟨B, 0, none⟩)) (Lib.strCells (x0 ++ rest (r.take k))) wx) ∧ Below B v0 wx) (fun _ i _ => r.length - (intOf i).toNat)
      case atStart => exact ⟨0, by omega, rfl, HB2, hbw2⟩
      case round =>
        obtain ⟨k, hk, rfl, hB, hbw⟩ := hrel
        have hsz := hbw.size
        by_cases hkl : k < r.length
        · obtain ⟨x, hxx⟩ : ∃ x, r[k]? = some x := ⟨_, List.getElem?_eq_getElem hkl⟩
          have ck := (hbw.cell (p := ⟨bk, 1 + k, none⟩) hbk).trans (HC.out (1 + k) x (by rw [Nat.add_comm]; simpa using hxx))
          have hxs : x.size ≤ 1000 := HX.out x (List.mem_of_getElem? hxx)
          have hrs := rest_size (r.take k) (fun y hy => HX.out y (List.mem_of_mem_take hy))
          have htk : (r.take k).length ≤ k := by simp; omega
          have e32 : (⟨#[32]⟩ : ByteArray).size = 1 := rfl
          have hlen : (Lib.strCells (x0 ++ rest (r.take k))).length ≤ 200000 := by rw [Lib.strCells_length, ByteArray.size_append]; omega
          have hnx : x0 ++ rest (r.take (k + 1)) = x0 ++ rest (r.take k) ++ ⟨#[32]⟩ ++ x := by
            rw [List.take_add_one, hxx]
            simp only [Option.toList_some, rest_snoc, ByteArray.append_assoc]
          have h1w := jb.writeS B B _ ⟨#[32]⟩ wr hB.out (by omega) (by omega)
          have HNX : Hid (x0 ++ rest (r.take (k + 1)) = x0 ++ rest (r.take k) ++ ⟨#[32]⟩ ++ x) := hnx
          clear hxx hrs hnx htk hB
          go_wp2_with fail
          refine h1w.mono ?_
          rintro e w3 ⟨rfl, hB3, hb3⟩
          have hs3 := hb3.size
          have h2w := jb.writeS B B _ x w3 hB3 (by rw [List.length_append, Lib.strCells_length ⟨#[32]⟩]; omega) (by omega)
          clear h1w hB3 ck
          go_wp2_with fail
          refine h2w.mono ?_
          rintro e w4 ⟨rfl, hB4, hb4⟩
          have HB4 : Hid (Lib.BuilderAt 106 5 B B (.pointer (some ⟨B, 0, none⟩)) (Lib.strCells (x0 ++ rest (r.take (k + 1)))) w4) := by
            unfold Hid
            rw [HNX.out, ← cells_app, ← cells_app]
            exact hB4
          have hb34 := (hbw.trans hb3).trans hb4
          clear h2w hB4 hlen
          go_wp2
          go_roundw
          case rel => exact ⟨k + 1, by omega, by go_num, HB4, hb34⟩
          case measure => simp [intOf]; omega
        · obtain rfl : k = r.length := by omega
          have hst := shBuilderLaid.Builder_String_any B B (x0 ++ rest r).data.toList wr (.inr (by have := hB.out; rw [List.take_length] at this; exact this)) (by omega)
          clear hB
          go_wp2_with fail
          refine hst.mono ?_
          rintro e w5 ⟨rfl, hb5⟩
          go_wp2
          go_ret
          rw [hBe]
          exact ⟨rfl, hbw.trans hb5⟩
end Go.Proofs.YtljaogecddmfjaaDoor.jw
