/- A row of bytes of one's own, marked by its conversion or not: made of a text, appended to, read back. -/
import Derived.Test.YtjnfljipomjcjaaGreatDoorRows
import Derived.WalkKit
import Derived.WalkLawsBesides
import Derived.WalkSpells
import Derived.ProofKit
import Derived.Below
import Derived.OwnWalk
import Derived.Laws.AppendOwn
import Derived.Laws.IdiomCopy
import Derived.Laws.BytesArg
import Derived.Laws.IdiomStrings
import Derived.Lib.ConvBytes
namespace Go.Proofs.YtjnfljipomjcjaaGreatDoor.br
open Go.ChangeShapes Go.WideShapes Go.ChangeAt Go.RowKit
set_option linter.unusedVariables false

/-- a slice of the bytes s at the head of a block from B on; every cell of its room is there and may be written -/
def BR (w : World) (B : Nat) (v : Value) (s : ByteArray) : Prop :=
  ∃ g cap, v = .slice (some ⟨g, 0, none⟩) s.size cap ∧ B ≤ g ∧ g < w.heap.size ∧ s.size ≤ cap ∧ cap ≤ maxLen ∧
    (∀ j, j < cap → (w.cell? ⟨g, j, none⟩).isSome = true ∧ w.frozen? ⟨g, j, none⟩ = false) ∧
    ∀ (j : Nat) (x : UInt8), s.data.toList[j]? = some x → w.cell? ⟨g, j, none⟩ = some (.int .u8 x.toNat)

theorem BR.below {w w' : World} {B : Nat} {v : Value} {s : ByteArray} (h : BR w B v s) (hb : Below w.heap.size w w') : BR w' B v s := by
  obtain ⟨g, cap, rfl, h1, h2, h3, h4, h5, h6⟩ := h
  refine ⟨g, cap, rfl, h1, Nat.lt_of_lt_of_le h2 hb.size, h3, h4, fun j hj => ⟨?_, ?_⟩, fun j x hx => ?_⟩
  · rw [hb.cell (p := ⟨g, j, none⟩) h2]; exact (h5 j hj).1
  · rw [World.frozen?_of_block (w := w) (a := ⟨g, j, none⟩) (hb.block g h2)]; exact (h5 j hj).2
  · rw [hb.cell (p := ⟨g, j, none⟩) h2]; exact h6 j x hx

theorem BR.mono {w : World} {B B' : Nat} {v : Value} {s : ByteArray} (h : BR w B v s) (hb : B' ≤ B) : BR w B' v s := by
  obtain ⟨g, cap, h0, h1, h2⟩ := h
  exact ⟨g, cap, h0, by omega, h2⟩

theorem infoByte : (Tryz.prog.info? 5).map (fun i => (i.zero, i.size, i.bytes)) = some (some (.int .u8 0), 1, 1) := by kernel_rfl

/-- the bytes of a text, laid in new memory -/
theorem conv (w : World) (d : ByteArray) (hd : d.size ≤ 1048576) : ∃ (W2 : World) (C2 : Nat), (convert 9 22 (.string d)).run Tryz.prog w = .ok (.slice (some ⟨w.heap.size, 0, none⟩) d.size C2) W2 ∧
    BR W2 w.heap.size (.slice (some ⟨w.heap.size, 0, none⟩) d.size C2) d ∧ (∀ (j : Nat) (x : UInt8), d.data.toList[j]? = some x → W2.cell? ⟨w.heap.size, j, none⟩ = some (.int .u8 x.toNat)) ∧ Below w.heap.size w W2 ∧ W2.heap.size = w.heap.size + 1 := by
  have h := Lib.run_convert_string_bytes (P := Tryz.prog) w 9 22 5 d Tryz.underlying9 Tryz.underlying22 Tryz.underlying5
  have hsz := Lib.bytesWorld_size w 5 d
  have hge := grownCap_ge w d.size 0 5
  have hcells : ∀ (j : Nat) (x : UInt8), d.data.toList[j]? = some x → (Lib.bytesWorld w 5 d).cell? ⟨w.heap.size, j, none⟩ = some (.int .u8 x.toNat) := fun j x hj => by
    have hlt : j < d.size := by
      rcases Nat.lt_or_ge j d.size with h' | h'
      · exact h'
      · rw [List.getElem?_eq_none (by simpa using h')] at hj
        cases hj
    rw [Lib.bytesWorld_cell w 5 d j hlt, List.getD, hj]
    rfl
  have hbs : (Lib.bytesCells w 5 d).size = grownCap w d.size 0 5 := by
    have e : d.data.size = d.size := rfl
    simp [Lib.bytesCells, e]
    omega
  refine ⟨_, _, h, ⟨w.heap.size, _, rfl, Nat.le_refl _, by omega, hge, grownCap_le_maxLen w d.size 0 _ (by unfold maxLen; omega), fun j hj => ?_, hcells⟩, hcells, ⟨rfl, rfl, rfl, by omega, fun k hk => Lib.bytesWorld_at_old w 5 d k hk⟩, hsz⟩
  have hn := Lib.bytesWorld_at_new w 5 d
  refine ⟨?_, ?_⟩
  · simp [World.cell?, hn, Array.getElem?_eq_getElem (show j < (Lib.bytesCells w 5 d).size by omega)]
  · simp [World.frozen?, hn]
    omega

theorem size_list (s : ByteArray) : s.data.toList.length = s.size := by rw [Array.length_toList]; rfl
theorem cells_at {w : World} {a : Addr} {x : ByteArray} (hx : ∀ (j : Nat) (y : UInt8), x.data.toList[j]? = some y → w.cell? (a.add j) = some (.int .u8 y.toNat)) : ∀ (j : Nat) u, (x.data.toList.map fun y => Value.int .u8 y.toNat)[j]? = some u → w.cell? (a.add j) = some u := fun j u hu => by
  rw [List.getElem?_map, Option.map_eq_some_iff] at hu
  obtain ⟨y, hy, rfl⟩ := hu
  exact hx j y hy
theorem addr_at (g o j : Nat) : (⟨g, o, none⟩ : Addr).add j = ⟨g, o + j, none⟩ := by unfold Addr.add; split <;> simp_all

theorem below_sets (B b : Nat) : ∀ (vs : List Value) (o : Nat) (w w' : World), Below B w w' → B ≤ b → Below B w (w'.setCells b o vs)
  | [], _, _, _, h, _ => h
  | v :: r, o, w, w', h, hb => below_sets B b r (o + 1) w _ (h.setCell (p := ⟨b, o, none⟩) hb v) hb

theorem size_sets (b : Nat) : ∀ (vs : List Value) (o : Nat) (w : World), (w.setCells b o vs).heap.size = w.heap.size
  | [], _, _ => rfl
  | v :: r, o, w => by rw [World.setCells, size_sets b r]; simp

/-- bytes appended -/
theorem run_app (w : World) (B : Nat) (ty : TypeId) (v : Value) (s x : ByteArray) (a : Addr) (c : Nat) (h : BR w B v s) (hx : ∀ (j : Nat) (y : UInt8), x.data.toList[j]? = some y → w.cell? (a.add j) = some (.int .u8 y.toNat)) (hl : s.size + x.size ≤ 1048576) (hB : B ≤ w.heap.size) :
    ∃ v' w', (Builtin.append_ #[22, 22] ty #[v, .slice (some a) x.size c]).run Tryz.prog w = .ok v' w' ∧ BR w' B v' (s ++ x) ∧ Below B w w' := by
  obtain ⟨i, hi, hz0, hz1, hz2⟩ := info_parts infoByte
  obtain ⟨g, cap, rfl, h1, h2, h3, h4, h5, h6⟩ := h
  have hnl : (x.data.toList.map fun y => Value.int .u8 y.toNat).length = x.size * i.size := by rw [List.length_map, size_list, hz1, Nat.mul_one]
  have hnews := cells_at hx
  have hone : ∀ u ∈ (x.data.toList.map fun y => Value.int .u8 y.toNat), u.oneCell' = true := fun u hu => by
    simp only [List.mem_map] at hu
    obtain ⟨y, _, rfl⟩ := hu
    rfl
  have hsz : (s ++ x).size = s.size + x.size := by rw [ByteArray.size_append]
  by_cases hroom : s.size + x.size ≤ cap
  · have hf := run_firstCells_some (P := Tryz.prog) w i.size x.size a x.size c _ hnl hnews
    have hlen : (x.data.toList.map fun y => Value.int .u8 y.toNat).length = x.size := by rw [List.length_map, size_list]
    have hst := run_storeCells_cells (P := Tryz.prog) g s.size (x.data.toList.map fun y => Value.int .u8 y.toNat) 0 w (fun j hj => by rw [hlen] at hj; exact (h5 (s.size + 0 + j) (by omega)).1) (fun j hj => by rw [hlen] at hj; exact (h5 (s.size + 0 + j) (by omega)).2) hone
    rw [hz1] at hf
    refine ⟨.slice (some ⟨g, 0, none⟩) (s.size + x.size) cap, w.setCells g s.size (x.data.toList.map fun y => Value.int .u8 y.toNat), ?_, ?_, below_sets B g _ _ _ _ (Below.refl _ _) h1⟩
    · simp only [Nat.add_zero] at hst
      simp [Builtin.append_, run_underlying Tryz.underlying22, sizeOf, typeInfo, hi, hz1, Builtin.lenOf, hroom, hf, Addr.add_lit, hst]
    · refine ⟨g, cap, by rw [hsz], h1, by rw [size_sets]; exact h2, by omega, h4, fun j hj => ⟨?_, ?_⟩, fun j y hy => ?_⟩
      · by_cases hin : s.size ≤ j ∧ j < s.size + x.size
        · have := World.cell?_setCells_in g (x.data.toList.map fun y => Value.int .u8 y.toNat) s.size w (fun k hk => by rw [hlen] at hk; exact (h5 (s.size + k) (by omega)).1) (j - s.size) (by rw [hlen]; omega)
          rw [show s.size + (j - s.size) = j by omega] at this
          rw [this]
          rfl
        · rw [World.cell?_setCells_out g _ s.size w ⟨g, j, none⟩ (fun _ _ => by rw [hlen]; show j < s.size ∨ s.size + x.size ≤ j; omega)]
          exact (h5 j hj).1
      · rw [World.frozen?_setCells]
        exact (h5 j hj).2
      · rw [ByteArray.data_append, Array.toList_append] at hy
        by_cases hjs : j < s.size
        · rw [List.getElem?_append_left (by rw [size_list]; exact hjs)] at hy
          rw [World.cell?_setCells_out g _ s.size w ⟨g, j, none⟩ (fun _ _ => .inl hjs)]
          exact h6 j y hy
        · rw [List.getElem?_append_right (by rw [size_list]; omega), size_list] at hy
          have hjx : j - s.size < x.size := by
            have := (List.getElem?_eq_some_iff.1 hy).1
            rwa [size_list] at this
          have := World.cell?_setCells_in g (x.data.toList.map fun y => Value.int .u8 y.toNat) s.size w (fun k hk => by rw [hlen] at hk; exact (h5 (s.size + k) (by omega)).1) (j - s.size) (by rw [hlen]; exact hjx)
          rw [show s.size + (j - s.size) = j by omega] at this
          rw [this, List.getElem_map]
          obtain ⟨_, e⟩ := List.getElem?_eq_some_iff.1 hy
          rw [e]
  · have hol : (s.data.toList.map fun y => Value.int .u8 y.toNat).length = s.size * i.size := by rw [List.length_map, size_list, hz1, Nat.mul_one]
    have holds := cells_at (w := w) (a := ⟨g, 0, none⟩) (x := s) (fun j y hy => by rw [addr_at, Nat.zero_add]; exact h6 j y hy)
    have hr := run_append_grow (P := Tryz.prog) w 22 ty 5 i (.int .u8 0) Tryz.underlying22 hi hz0 ⟨g, 0, none⟩ s.size cap _ hol holds a x.size c _ hnl hnews (by omega) (by omega) (growslice_fits (by omega) (by rw [hz2]; omega))
    have hge := grownCap_ge w (s.size + x.size) cap 5
    have hcm := grownCap_le_maxLen w (s.size + x.size) cap 5 (by unfold maxLen; omega)
    generalize grownCap w (s.size + x.size) cap 5 = gc at hr hge hcm
    have hlenS : (s.data.toList.map fun y => Value.int .u8 y.toNat).length = s.size := by rw [List.length_map, size_list]
    have hlenX : (x.data.toList.map fun y => Value.int .u8 y.toNat).length = x.size := by rw [List.length_map, size_list]
    obtain ⟨cs, hcs⟩ : ∃ cs, ((s.data.toList.map fun y => Value.int .u8 y.toNat).toArray ++ (x.data.toList.map fun y => Value.int .u8 y.toNat).toArray ++ Builtin.zeroCells (Value.cells (.int .u8 0)) (gc - (s.size + x.size))) = cs := ⟨_, rfl⟩
    have hcsz : cs.size = gc := by
      rw [← hcs]
      simp only [Array.size_append, List.size_toArray, size_zeroCells, hlenS, hlenX]
      have : (Value.cells (.int .u8 0)).size = 1 := rfl
      rw [this]
      omega
    rw [hcs] at hr
    have hnew := heap_alloc_new w.drew (.cells cs 5)
    have hnew2 : (w.drew.alloc (.cells cs 5)).heap[w.heap.size]? = some (.cells cs 5 (0, 0)) := hnew
    refine ⟨_, _, hr, ⟨w.heap.size, gc, by rw [hsz], hB, by simp, by omega, hcm, fun j hj => ⟨?_, ?_⟩, fun j y hy => ?_⟩, ⟨rfl, rfl, rfl, by simp, fun k hk => Below.heap_alloc w.drew _ k (Nat.lt_of_lt_of_le hk hB)⟩⟩
    · rw [cell_of_row _ w.heap.size j cs _ _ hnew2, Array.getElem?_eq_getElem (show j < cs.size by omega)]
      rfl
    · simp only [World.frozen?, hnew2]
      simp
    · rw [cell_of_row _ w.heap.size j cs _ _ hnew2, ← hcs]
      rw [ByteArray.data_append, Array.toList_append] at hy
      have hjl : j < s.size + x.size := by
        have := (List.getElem?_eq_some_iff.1 hy).1
        rw [List.length_append, size_list, size_list] at this
        exact this
      rw [Array.getElem?_append_left (by simp only [Array.size_append, List.size_toArray, hlenS, hlenX]; exact hjl), ← Array.getElem?_toList, Array.toList_append]
      simp only [← List.map_append]
      rw [List.getElem?_map, hy]
      rfl

/-- the text of such a row -/
theorem run_text (w : World) (B : Nat) (v : Value) (s : ByteArray) (h : BR w B v s) : (convert 22 9 v).run Tryz.prog w = .ok (.string s) w := by
  obtain ⟨g, cap, rfl, h1, h2, h3, h4, h5, h6⟩ := h
  have hcv := run_convert_bytes_back (P := Tryz.prog) w 22 9 5 ⟨g, 0, none⟩ cap s.data.toList Tryz.underlying22 Tryz.underlying5 Tryz.underlying9 (fun j hj => by
    rw [addr_at, Nat.zero_add]
    exact h6 j _ (List.getElem?_eq_getElem hj))
  rw [size_list] at hcv
  rw [hcv]
theorem wpList_append_run {P : Program} {w w' : World} {ops : Array Oper} {rest : List Oper} {o : Oper} {a : Act} {Q : Exit → Act → World → Prop} (hgd : o.guard = none) (d s : Operand) (t t' : TypeId)
    (ho : o.op = .call { callee := .builtin .append, args := #[d, s], argTypes := #[t, t'] }) (dv sv v : Value) (hd : a.eval d = dv) (hs : a.eval s = sv) (hrun : (Builtin.append_ #[t, t'] o.type #[dv, sv]).run P w = .ok v w')
    (h : wpList P ops Q rest (a.put o.dst v) w') : wpList P ops Q (o :: rest) a w := by
  refine wpList_plain hgd fun K hK => ?_
  unfold Oper.wp
  simp [execOp, ho, resolve, invoke, builtin, hd, hs, hrun, Result.andThen]
  exact hK _ _ h
end Go.Proofs.YtjnfljipomjcjaaGreatDoor.br
