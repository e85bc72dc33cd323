/- slices.DeleteFunc and slices.IndexFunc at a row of bindings, asked by the function that Unbind hands them: the bindings of one queue are struck. -/
import Derived.Test.YtnooibeohdfcmaaGreatDoorCopyRoutes
import Derived.Lib.SliceRun
namespace Go.Proofs.YtnooibeohdfcmaaGreatDoor.db
open Go.ChangeShapes Go.WideShapes Go.ChangeAt Go.RowKit Go.Proofs.YtnooibeohdfcmaaGreatDoor.rr Go.Proofs.YtnooibeohdfcmaaGreatDoor.ra Go.Proofs.YtnooibeohdfcmaaGreatDoor.rt Go.Proofs.YtnooibeohdfcmaaGreatDoor.fl
set_option linter.unusedVariables false

/-- the binding is the queue's -/
def mine (q : ByteArray) (b : Bi) : Bool := b.q.toList == q.toList

theorem closure (q : ByteArray) (b : Bi) (qb : Nat) (w : World) (hq : w.cell? ⟨qb, 0, none⟩ = some (.string q)) : Calls Tryz.prog 55 #[.agg #[.string b.x, .string b.k, .string b.q], .pointer (some ⟨qb, 0, none⟩)] w fun e w' => e = .returned (.bool (mine q b)) ∧ Below w.heap.size w w' := by
  obtain ⟨x, k, bq⟩ := b
  have hlt := World.block_lt_of_cell? w _ hq
  have hq' := (Below.refl w.heap.size w).alloc (Nat.le_refl _) (.cells #[.string x, .string k, .string bq] 45)
  have hq2 := (hq'.cell (p := ⟨qb, 0, none⟩) hlt).trans hq
  go_enter Tryz.func55, Tryz.ntmps55
  go_wp2
  go_ret
  exact ⟨by simp [mine], hq'⟩

/-- a row of bindings on the way: kept is what is left of the first j, the others still lie where they lay -/
def DR (W : World) (g : Nat) (bs kept : List Bi) (j : Nat) : Prop := ∃ cur, W.heap[g]? = some (.cells cur 45 (0, 0)) ∧ bs.length * 3 ≤ cur.size ∧
  (∀ (i : Nat) (e : Bi), kept[i]? = some e → cur[i * 3]? = some (.string e.x) ∧ cur[i * 3 + 1]? = some (.string e.k) ∧ cur[i * 3 + 2]? = some (.string e.q)) ∧
  (∀ (i : Nat) (e : Bi), j ≤ i → bs[i]? = some e → cur[i * 3]? = some (.string e.x) ∧ cur[i * 3 + 1]? = some (.string e.k) ∧ cur[i * 3 + 2]? = some (.string e.q))
section
variable {W W' : World} {g B : Nat} {bs kept : List Bi} {j : Nat}
theorem DR.lt (h : DR W g bs kept j) : g < W.heap.size := by
  obtain ⟨cur, h1, _⟩ := h
  exact (Array.getElem?_eq_some_iff.1 h1).1
theorem DR.below (h : DR W g bs kept j) (hb : Below B W W') (hg : g < B) : DR W' g bs kept j := by
  obtain ⟨cur, h1, h2⟩ := h
  exact ⟨cur, by rw [hb.block g hg]; exact h1, h2⟩
theorem DR.at (h : DR W g bs kept j) (o : Nat) (ho : o < bs.length * 3) : ∃ v, W.cell? ⟨g, o, none⟩ = some v := by
  obtain ⟨cur, hg, hs, _⟩ := h
  exact ⟨cur[o]'(by omega), by simp [World.cell?, hg, Array.getElem?_eq_getElem (show o < cur.size by omega)]⟩
theorem DR.free (h : DR W g bs kept j) (o : Nat) : W.frozen? ⟨g, o, none⟩ = false := by
  obtain ⟨cur, hg, _⟩ := h
  simp [World.frozen?, hg]
theorem DR.old (h : DR W g bs kept j) {i : Nat} {e : Bi} (hi : j ≤ i) (he : bs[i]? = some e) : W.cell? ⟨g, i * 3, none⟩ = some (.string e.x) ∧ W.cell? ⟨g, i * 3 + 1, none⟩ = some (.string e.k) ∧ W.cell? ⟨g, i * 3 + 2, none⟩ = some (.string e.q) := by
  obtain ⟨cur, hg, _, _, hc⟩ := h
  obtain ⟨h1, h2, h3⟩ := hc i e hi he
  exact ⟨bcell hg h1, bcell hg h2, bcell hg h3⟩
theorem DR.skip (h : DR W g bs kept j) : DR W g bs kept (j + 1) := by
  obtain ⟨cur, h1, h2, h3, h4⟩ := h
  exact ⟨cur, h1, h2, h3, fun i e hi => h4 i e (by omega)⟩
theorem DR.keep (h : DR W g bs kept j) (hk : kept.length ≤ j) (hj : j < bs.length) (x k q : ByteArray) : DR (((W.setCell ⟨g, kept.length * 3, none⟩ (.string x)).setCell ⟨g, kept.length * 3 + 1, none⟩ (.string k)).setCell ⟨g, kept.length * 3 + 2, none⟩ (.string q)) g bs (kept ++ [⟨x, k, q⟩]) (j + 1) := by
  obtain ⟨cur, h1, h2, h3, h4⟩ := h
  refine ⟨_, bset (bset (bset h1 _ _) _ _) _ _, by simpa using h2, fun i e he => ?_, fun i e hi he => ?_⟩
  · rcases Nat.lt_trichotomy i kept.length with hi | rfl | hi
    · rw [List.getElem?_append_left hi] at he
      have hold := h3 i e he
      simp only [Array.getElem?_setIfInBounds]
      repeat rw [if_neg (by omega)]
      exact hold
    · rw [List.getElem?_append_right (Nat.le_refl _)] at he
      simp at he
      subst he
      simp [Array.getElem?_setIfInBounds]
      omega
    · rw [List.getElem?_append_right (by omega)] at he
      have := (List.getElem?_eq_some_iff.1 he).1
      simp at this
      omega
  · have hold := h4 i e (by omega) he
    simp only [Array.getElem?_setIfInBounds]
    repeat rw [if_neg (by omega)]
    exact hold
theorem DR.of (h : FB W g bs bs.length) : DR W g bs (bs.take j) j := by
  obtain ⟨cur, h1, h2, h3⟩ := h
  refine ⟨cur, h1, h2, fun i e he => ?_, fun i e hi he => h3 i e (List.getElem?_eq_some_iff.1 he).1 he⟩
  have hi := (List.getElem?_eq_some_iff.1 he).1
  rw [List.length_take] at hi
  rw [List.getElem?_take_of_lt (by omega)] at he
  exact h3 i e (by omega) he
/-- what is left when the rest of the row has been cleared -/
theorem DR.cleared (h : DR W g bs kept j) (hk : kept.length ≤ bs.length) (vs : List Value) : FB (W.setCells g (kept.length * 3) vs) g kept kept.length := by
  obtain ⟨cur, h1, h2, h3, _⟩ := h
  have e : ∀ (vs : List Value) (W : World) (o : Nat), W.setCells g o vs = fl.setRow W g o vs := by
    intro vs
    induction vs with
    | nil => intros; rfl
    | cons v r ih => intro W o; simp only [World.setCells, fl.setRow]; exact ih _ _
  rw [e]
  refine ⟨_, fl.setRow_heap vs W _ cur h1, by rw [fl.setArr_size]; omega, fun i f hi hf => ?_⟩
  obtain ⟨a, b, c⟩ := h3 i f hf
  refine ⟨?_, ?_, ?_⟩
  · rw [fl.setArr_off _ _ _ _ (.inl (by omega))]; exact a
  · rw [fl.setArr_off _ _ _ _ (.inl (by omega))]; exact b
  · rw [fl.setArr_off _ _ _ _ (.inl (by omega))]; exact c
end

section
variable {w w1 w2 : World} {r : Option Nat} {g : Nat}
theorem gb_refl (w : World) (r : Option Nat) : w.grownBy w r := ⟨rfl, rfl, rfl, Nat.le_refl _, fun _ _ _ => rfl⟩
theorem gb_below (h : w.grownBy w1 r) (hb : Below w1.heap.size w1 w2) : w.grownBy w2 r := h.trans ⟨hb.os, hb.tape, hb.output, hb.size, fun k hk _ => hb.block k hk⟩
theorem gb_set (h : w.grownBy w1 (some g)) (o : Nat) (v : Value) : w.grownBy (w1.setCell ⟨g, o, none⟩ v) (some g) := by
  have hb : Below 0 w1 (w1.setCell ⟨g, o, none⟩ v) := (Below.refl 0 w1).setCell (Nat.zero_le _) v
  exact h.trans ⟨hb.os, hb.tape, hb.output, hb.size, fun k hk hne => RowKit.Below.heap_setCell _ _ _ _ (by intro e; exact hne (by rw [e]))⟩
theorem gb_sets : ∀ (vs : List Value) (w1 : World) (o : Nat), w.grownBy w1 (some g) → w.grownBy (w1.setCells g o vs) (some g)
  | [], w1, o, h => h
  | v :: r, w1, o, h => gb_sets r _ _ (gb_set h o v)
end
/-- what is left of the first j -/
def K (q : ByteArray) (bs : List Bi) (j : Nat) : List Bi := (bs.take j).filter fun b => !mine q b
theorem K_len (q : ByteArray) (bs : List Bi) (j : Nat) : (K q bs j).length ≤ j := Nat.le_trans (List.length_filter_le _ _) (by rw [List.length_take]; omega)
theorem K_next {q : ByteArray} {bs : List Bi} {j : Nat} {b : Bi} (h : bs[j]? = some b) : K q bs (j + 1) = if mine q b then K q bs j else K q bs j ++ [b] := by
  unfold K
  obtain ⟨hj, he⟩ := List.getElem?_eq_some_iff.1 h
  rw [List.take_succ_eq_append_getElem hj, List.filter_append, he]
  cases hm : mine q b <;> simp [hm]
theorem K_first {q : ByteArray} {bs : List Bi} {k : Nat} (h : ∀ i b, i < k → bs[i]? = some b → mine q b = false) : K q bs k = bs.take k := by
  unfold K
  rw [List.filter_eq_self]
  intro b hb
  obtain ⟨i, hi⟩ := List.getElem?_of_mem hb
  have hl := (List.getElem?_eq_some_iff.1 hi).1
  rw [List.length_take] at hl
  rw [List.getElem?_take_of_lt (by omega)] at hi
  simp [h i b (by omega) hi]
theorem K_all (q : ByteArray) (bs : List Bi) : K q bs bs.length = bs.filter fun b => !mine q b := by
  unfold K
  rw [List.take_length]
theorem K_lt {q : ByteArray} {bs : List Bi} {k : Nat} {b : Bi} (h : bs[k]? = some b) (hm : mine q b = true) : ∀ m, (K q bs (k + 1 + m)).length ≤ k + m
  | 0 => by
    rw [Nat.add_zero, K_next h, hm, if_pos rfl]
    have := K_len q bs k
    omega
  | m + 1 => by
    have ih := K_lt h hm m
    rw [show k + 1 + (m + 1) = k + 1 + m + 1 by omega]
    cases hx : bs[k + 1 + m]? with
    | none =>
      have hle : bs.length ≤ k + 1 + m := by simpa using hx
      have : K q bs (k + 1 + m + 1) = K q bs (k + 1 + m) := by
        unfold K
        rw [List.take_of_length_le (by omega), List.take_of_length_le hle]
      rw [this]
      omega
    | some c =>
      rw [K_next hx]
      split
      · omega
      · simp; omega

/-- clear: the rest of the row -/
theorem run_clear (W : World) (g n c o : Nat) (ty : TypeId) (hn : 0 < n) (hc : ∀ j, j < n * 3 → (W.cell? ⟨g, o + j, none⟩).isSome = true) (hf : ∀ j, W.frozen? ⟨g, j, none⟩ = false) :
    ∃ vs, (Builtin.clear_ #[25] ty #[.slice (some ⟨g, o, none⟩) n c]).run Tryz.prog W = .ok (.tuple #[]) (W.setCells g o vs) := by
  have hzl : (Builtin.zeroCells #[.string ByteArray.empty, .string ByteArray.empty, .string ByteArray.empty] n).toList.length = n * 3 := by simp [Builtin.zeroCells]
  have hz1 : ∀ v ∈ (Builtin.zeroCells #[.string ByteArray.empty, .string ByteArray.empty, .string ByteArray.empty] n).toList, v.oneCell' = true := by
    intro v hv
    simp [Builtin.zeroCells] at hv
    obtain ⟨a, _, rfl⟩ := hv
    have : a % 3 < 3 := Nat.mod_lt _ (by omega)
    generalize a % 3 = r at this ⊢
    match r, this with
    | 0, _ => rfl
    | 1, _ => rfl
    | 2, _ => rfl
  have hst := run_storeCells_cells (P := Tryz.prog) g o (Builtin.zeroCells #[.string ByteArray.empty, .string ByteArray.empty, .string ByteArray.empty] n).toList 0 W (by rw [hzl]; simpa using hc) (by rw [hzl]; intro j _; exact hf _) hz1
  simp only [Nat.add_zero] at hst
  refine ⟨(Builtin.zeroCells #[.string ByteArray.empty, .string ByteArray.empty, .string ByteArray.empty] n).toList, ?_⟩
  obtain ⟨m, rfl⟩ : ∃ m, n = m + 1 := ⟨n - 1, by omega⟩
  have hz := Tryz.zeroValue45
  simp only [Builtin.clear_]
  simp [run_underlying Tryz.underlying25, hz]
  rw [show (Value.agg #[.string ⟨#[]⟩, .string ⟨#[]⟩, .string ⟨#[]⟩]).cells = #[.string ByteArray.empty, .string ByteArray.empty, .string ByteArray.empty] from rfl, hst]
  rfl

set_option maxRecDepth 100000 in
set_option maxHeartbeats 1000000 in
theorem index_func (q : ByteArray) (bs : List Bi) (g cap qb : Nat) (w : World) (hl : bs.length ≤ 1048576) (hq : w.cell? ⟨qb, 0, none⟩ = some (.string q)) (hR : RB w g bs) :
    Calls Tryz.prog 73 #[.slice (some ⟨g, 0, none⟩) bs.length cap, .func (.func 55) #[] #[.pointer (some ⟨qb, 0, none⟩)]] w fun e w' => ∃ k : Nat, ((k = bs.length ∧ e = .returned (.int .i64 (-1))) ∨ (k < bs.length ∧ e = .returned (.int .i64 k) ∧ ∃ b, bs[k]? = some b ∧ mine q b = true)) ∧ (∀ i b, i < k → bs[i]? = some b → mine q b = false) ∧ Below w.heap.size w w' := by
  have HR : Hid (RB w g bs) := hR
  have hlt := World.block_lt_of_cell? w _ hq
  clear hR
  go_enter Tryz.func73, Tryz.ntmps73
  go_wp2
  go_loopw [8] (fun x wr => ∃ k : Nat, k ≤ bs.length ∧ x = .int .i64 k ∧ Hid (∀ i b, i < k → bs[i]? = some b → mine q b = false) ∧ Below w.heap.size w wr) (fun x _ => bs.length - (intOf x).toNat)
  case atStart => exact ⟨0, Nat.zero_le _, rfl, fun i b hi => by omega, Below.refl _ _⟩
  case round =>
    obtain ⟨k, hk, rfl, hno, hbel⟩ := hrel
    by_cases hkl : k < bs.length
    · have HG : Hid (bs[k]? = some bs[k]) := List.getElem?_eq_getElem hkl
      obtain ⟨c0, c1, c2⟩ := (HR.out.below hbel).2 k _ HG.out
      have hq2 := (hbel.cell (p := ⟨qb, 0, none⟩) hlt).trans hq
      have hcl := closure q bs[k] qb wr hq2
      obtain ⟨⟨x, y, z⟩, he⟩ : ∃ e, bs[k] = e := ⟨_, rfl⟩
      rw [he] at c0 c1 c2 HG hcl
      have c0 : wr.cell? ⟨g, k * 3, none⟩ = some (.string x) := c0
      have c1 : wr.cell? ⟨g, k * 3 + 1, none⟩ = some (.string y) := c1
      have c2 : wr.cell? ⟨g, k * 3 + 2, none⟩ = some (.string z) := c2
      have hbs := hbel.size
      clear he hq2
      cases hm : mine q ⟨x, y, z⟩ with
      | true =>
        have HM : Hid (mine q ⟨x, y, z⟩ = true) := hm
        rw [hm] at hcl
        clear hm
        go_wp2_with (go_at_call 55; refine hcl.mono ?_; rintro e w1 ⟨rfl, hb1⟩)
        go_ret
        exact ⟨k, .inr ⟨hkl, rfl, _, HG.out, HM.out⟩, hno.out, hbel.trans (hb1.mono hbs)⟩
      | false =>
        have HM : Hid (mine q ⟨x, y, z⟩ = false) := hm
        rw [hm] at hcl
        clear hm
        go_wp2_with (go_at_call 55; refine hcl.mono ?_; rintro e w1 ⟨rfl, hb1⟩)
        go_roundw
        case rel =>
          refine ⟨k + 1, by omega, by go_num, fun i b hi hb => ?_, hbel.trans (hb1.mono hbs)⟩
          by_cases e : i = k
          · subst e
            rw [HG.out] at hb
            cases hb
            exact HM.out
          · exact hno.out i b (by omega) hb
        case measure => simp [intOf]; omega
    · obtain rfl : k = bs.length := by omega
      go_wp2
      go_ret
      exact ⟨bs.length, .inl ⟨rfl, rfl⟩, hno.out, hbel⟩

set_option maxRecDepth 100000 in
set_option maxHeartbeats 2000000 in
theorem delete_func (q : ByteArray) (bs : List Bi) (g cap qb : Nat) (w : World) (hl : bs.length ≤ 1048576) (hcap : bs.length ≤ cap) (hq : w.cell? ⟨qb, 0, none⟩ = some (.string q)) (hqg : qb ≠ g) (hR : FB w g bs bs.length) :
    Calls Tryz.prog 54 #[.slice (some ⟨g, 0, none⟩) bs.length cap, .func (.func 55) #[] #[.pointer (some ⟨qb, 0, none⟩)]] w fun e w' => e = .returned (.slice (some ⟨g, 0, none⟩) (bs.filter fun b => !mine q b).length cap) ∧ FB w' g (bs.filter fun b => !mine q b) (bs.filter fun b => !mine q b).length ∧ w.grownBy w' (some g) := by
  have hix := index_func q bs g cap qb w hl hq hR.all
  have hlt := World.block_lt_of_cell? w _ hq
  have HR : Hid (FB w g bs bs.length) := hR
  have hglt := hR.lt
  clear hR
  go_enter Tryz.func54, Tryz.ntmps54
  go_wp2_with (go_at_call 73; fail)
  refine hix.mono ?_
  rintro e w1 ⟨k0, hcase, hno, hb1⟩
  clear hix
  rcases hcase with ⟨rfl, rfl⟩ | ⟨hk0, rfl, hit⟩
  · have hf : (bs.filter fun b => !mine q b) = bs := by
      rw [List.filter_eq_self]
      intro b hb
      obtain ⟨i, hi⟩ := List.getElem?_of_mem hb
      simp [hno i b (List.getElem?_eq_some_iff.1 hi).1 hi]
    have HF : Hid ((bs.filter fun b => !mine q b) = bs) := hf
    clear hf hno
    go_wp2
    go_ret
    rw [HF.out]
    exact ⟨rfl, HR.out.below hb1 hglt, gb_below (gb_refl _ _) hb1⟩
  · have HNO : Hid (∀ i b, i < k0 → bs[i]? = some b → mine q b = false) := hno
    obtain ⟨b0, hit0, hit1⟩ := hit
    have HIT : Hid (bs[k0]? = some b0 ∧ mine q b0 = true) := ⟨hit0, hit1⟩
    have HD0 : Hid (DR w1 g bs (K q bs (k0 + 1)) (k0 + 1)) := by
      have h1 := (DR.of (j := k0) (HR.out.below hb1 hglt)).skip
      rw [← K_first hno] at h1
      have h2 := K_next (q := q) hit0
      rw [hit1, if_pos rfl] at h2
      unfold Hid
      rw [h2]
      exact h1
    have HL0 : Hid ((K q bs (k0 + 1)).length = k0) := by
      have h2 := K_next (q := q) hit0
      rw [hit1, if_pos rfl] at h2
      unfold Hid
      rw [h2, K_first hno, List.length_take]
      omega
    have hg1 : w.grownBy w1 (some g) := gb_below (gb_refl _ _) hb1
    have HLT : Hid (∀ j, k0 + 1 ≤ j → (K q bs j).length ≤ j - 1) := fun j hj => by
      have := K_lt hit0 hit1 (j - (k0 + 1))
      rw [show k0 + 1 + (j - (k0 + 1)) = j by omega] at this
      omega
    have hk1 : ((k0 : Int) == -1) = false := by simp
    clear hno hit0 hit1
    go_wp2
    clear hk1
    go_loopw [5, 6] (fun y x wr => ∃ j : Nat, k0 + 1 ≤ j ∧ j ≤ bs.length ∧ x = .int .i64 j ∧ y = .int .i64 ((K q bs j).length : Nat) ∧ Hid (DR wr g bs (K q bs j) j) ∧ w.grownBy wr (some g)) (fun _ x _ => bs.length - (intOf x).toNat)
    case atStart => exact ⟨k0 + 1, by omega, by omega, by go_num, by rw [HL0.out], HD0, hg1⟩
    case round =>
      obtain ⟨j, hj0, hj, rfl, rfl, hdr, hgr⟩ := hrel
      have hkl := HLT.out j hj0
      by_cases hjl : j < bs.length
      · have HG : Hid (bs[j]? = some bs[j]) := List.getElem?_eq_getElem hjl
        obtain ⟨c0, c1, c2⟩ := hdr.out.old (Nat.le_refl _) HG.out
        have HK := fun b h => K_next (q := q) (bs := bs) (j := j) (b := b) h
        obtain ⟨⟨x, y, z⟩, he⟩ : ∃ e, bs[j] = e := ⟨_, rfl⟩
        rw [he] at c0 c1 c2 HG
        have HKN : Hid (K q bs (j + 1) = if mine q ⟨x, y, z⟩ then K q bs j else K q bs j ++ [⟨x, y, z⟩]) := HK _ HG.out
        have c0 : wr.cell? ⟨g, j * 3, none⟩ = some (.string x) := c0
        have c1 : wr.cell? ⟨g, j * 3 + 1, none⟩ = some (.string y) := c1
        have c2 : wr.cell? ⟨g, j * 3 + 2, none⟩ = some (.string z) := c2
        have hq1 : wr.cell? ⟨qb, 0, none⟩ = some (.string q) := (World.cell?_of_block (a := ⟨qb, 0, none⟩) (hgr.block qb hlt (by simpa using hqg))).trans hq
        have hba : Below wr.heap.size wr (wr.alloc (.cells #[.string x, .string y, .string z] 45)) := (Below.refl _ _).alloc (Nat.le_refl _) _
        have hcl := closure q ⟨x, y, z⟩ qb (wr.alloc (.cells #[.string x, .string y, .string z] 45)) ((hba.cell (p := ⟨qb, 0, none⟩) (World.block_lt_of_cell? wr _ hq1)).trans hq1)
        have hgl := hdr.out.lt
        have HV := bnew wr #[.string x, .string y, .string z] 45
        obtain ⟨i, hi⟩ : ∃ i, (K q bs j).length = i := ⟨_, rfl⟩
        have HI : Hid ((K q bs j).length = i) := hi
        rw [hi] at hkl ⊢
        have hin : (i : Int) < (bs.length : Int) := by omega
        have HVH : Hid ((wr.alloc (.cells #[.string x, .string y, .string z] 45)).heap[wr.heap.size]? = some (.cells #[.string x, .string y, .string z] 45 (0, 0))) := HV
        clear he hi HK HV hq1
        cases hm : mine q ⟨x, y, z⟩ with
        | true =>
          rw [hm] at hcl HKN
          clear hm
          go_wp2_with (go_at_call 55; refine hcl.mono ?_; rintro e w2 ⟨rfl, hb2⟩)
          go_roundw
          case rel =>
            have hx : K q bs (j + 1) = K q bs j := by simpa using HKN.out
            refine ⟨j + 1, by omega, by omega, by go_num, by rw [hx, HI.out], ?_, gb_below (gb_below hgr hba) hb2⟩
            unfold Hid
            rw [hx]
            exact (DR.below (DR.below hdr.out hba hgl) hb2 (by simp; omega)).skip
          case measure => simp [intOf]; omega
        | false =>
          rw [hm] at hcl HKN
          clear hm
          go_wp2_with (go_at_call 55; refine hcl.mono ?_; rintro e w2 ⟨rfl, hb2⟩; have hv2 := bstay HVH.out hb2 (by simp); have d0 : w2.cell? ⟨wr.heap.size, 0, none⟩ = some (.string x) := bcell hv2 rfl; have d1 : w2.cell? ⟨wr.heap.size, 1, none⟩ = some (.string y) := bcell hv2 rfl; have d2 : w2.cell? ⟨wr.heap.size, 2, none⟩ = some (.string z) := bcell hv2 rfl; have hd2 := DR.below (DR.below hdr.out hba hgl) hb2 (by simp; omega); obtain ⟨o0, p0⟩ := hd2.at (i * 3) (by omega); obtain ⟨o1, p1⟩ := hd2.at (i * 3 + 1) (by omega); obtain ⟨o2, p2⟩ := hd2.at (i * 3 + 2) (by omega); have z0 := hd2.free (i * 3); have z1 := hd2.free (i * 3 + 1); have z2 := hd2.free (i * 3 + 2); have HD2 : Hid (DR w2 g bs (K q bs j) j) := hd2; clear hd2 hv2)
          go_roundw
          case rel =>
            have hx : K q bs (j + 1) = K q bs j ++ [⟨x, y, z⟩] := by simpa using HKN.out
            have hkk := HI.out
            refine ⟨j + 1, by omega, by omega, by go_num, by rw [hx]; simp [hkk], ?_, gb_set (gb_set (gb_set (gb_below (gb_below hgr hba) hb2) _ _) _ _) _ _⟩
            unfold Hid
            rw [hx]
            have := DR.keep HD2.out (by omega) hjl x y z
            rw [hkk] at this
            exact this
          case measure => simp [intOf]; omega
      · obtain rfl : j = bs.length := by omega
        obtain ⟨i, hi⟩ : ∃ i, (K q bs bs.length).length = i := ⟨_, rfl⟩
        rw [hi] at hkl ⊢
        have hcd := run_clear wr g (bs.length - i) (cap - i) (i * 3)
        have HI : Hid ((K q bs bs.length).length = i) := hi
        have HCL : Hid (∀ ty, ∃ vs, (Builtin.clear_ #[25] ty #[.slice (some ⟨g, i * 3, none⟩) (bs.length - i) (cap - i)]).run Tryz.prog wr = .ok (.tuple #[]) (wr.setCells g (i * 3) vs)) := fun ty => hcd ty (by omega) (fun t ht => by obtain ⟨v, hv⟩ := hdr.out.at (i * 3 + t) (by omega); rw [hv]; rfl) (fun t => hdr.out.free t)
        have hin : i ≤ bs.length := by omega
        obtain ⟨vs, hvs⟩ := HCL.out 0
        have HV : Hid (FB (wr.setCells g (i * 3) vs) g (K q bs bs.length) (K q bs bs.length).length) := by
          have := hdr.out.cleared (by omega) vs
          rw [hi] at this
          unfold Hid
          rw [hi]
          exact this
        have hgf : w.grownBy (wr.setCells g (i * 3) vs) (some g) := gb_sets vs wr _ hgr
        obtain ⟨WF, hWF⟩ : ∃ WF, wr.setCells g (i * 3) vs = WF := ⟨_, rfl⟩
        rw [hWF] at hvs HV hgf
        have HWF : Hid (wr.setCells g (i * 3) vs = WF) := hWF
        clear hcd hi hWF HCL
        go_wp2
        refine bodyPost_ret (v := .slice (some ⟨g, 0, none⟩) i cap) (by simp [results, Tryz.results54, go_sem]) rfl ?_
        rw [← K_all]
        exact ⟨by rw [HI.out], HV.out, hgf⟩
end Go.Proofs.YtnooibeohdfcmaaGreatDoor.db
