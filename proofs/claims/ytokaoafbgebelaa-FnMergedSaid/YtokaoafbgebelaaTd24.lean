/- The program's TableMerge. -/
import Derived.Test.YtokaoafbgebelaaFlPair
import Derived.Test.YtokaoafbgebelaaFlatOff
import Derived.Lib.SliceRun
import Derived.Test.YtokaoafbgebelaaTd13
import Derived.Test.YtokaoafbgebelaaTd23
import Derived.Test.YtokaoafbgebelaaTd17
import Derived.Test.YtokaoafbgebelaaTd04

/- slices.DeleteFunc and slices.IndexFunc at a row of pairs, asked by isGone: the pairs that are Gone are struck. -/
namespace Go.Proofs.Ytokaoafbgebelaa.dg
open Go.ChangeShapes Go.WideShapes Go.ChangeAt Go.RowKit Go.Proofs.Ytokaoafbgebelaa.fl Go.Proofs.Ytokaoafbgebelaa.fo
set_option linter.unusedVariables false

theorem closure (b : flP.Pr) (w : World) : Calls Try.prog 45 #[.agg #[.string b.k, .string b.v, .bool b.g]] w fun e w' => e = .returned (.bool b.g) ∧ Below w.heap.size w w' := by
  obtain ⟨k, v, gn⟩ := b
  have hb := (Below.refl w.heap.size w).alloc (Nat.le_refl _) (.cells #[.string k, .string v, .bool gn] 40)
  go_enter Try.func45, Try.ntmps45
  go_wp2
  go_ret
  exact ⟨rfl, hb⟩

/-- a row of pairs on the way: kept is what is left of the first j, the others still lie where they lay -/
def DR (W : World) (g : Nat) (bs kept : List flP.Pr) (j : Nat) : Prop := ∃ cur, W.heap[g]? = some (.cells cur 40 (0, 0)) ∧ bs.length * 3 ≤ cur.size ∧
  (∀ (i : Nat) (e : flP.Pr), kept[i]? = some e → cur[i * 3]? = some (.string e.k) ∧ cur[i * 3 + 1]? = some (.string e.v) ∧ cur[i * 3 + 2]? = some (.bool e.g)) ∧
  (∀ (i : Nat) (e : flP.Pr), j ≤ i → bs[i]? = some e → cur[i * 3]? = some (.string e.k) ∧ cur[i * 3 + 1]? = some (.string e.v) ∧ cur[i * 3 + 2]? = some (.bool e.g))
section
variable {W W' : World} {g B : Nat} {bs kept : List flP.Pr} {j : Nat}
theorem DR.lt (h : DR W g bs kept j) : g < W.heap.size := by
  obtain ⟨cur, h1, _⟩ := h
  exact (Array.getElem?_eq_some_iff.1 h1).1
theorem DR.below (h : DR W g bs kept j) (hb : Below B W W') (hg : g < B) : DR W' g bs kept j := by
  obtain ⟨cur, h1, h2⟩ := h
  exact ⟨cur, by rw [hb.block g hg]; exact h1, h2⟩
theorem DR.at (h : DR W g bs kept j) (o : Nat) (ho : o < bs.length * 3) : ∃ v, W.cell? ⟨g, o, none⟩ = some v := by
  obtain ⟨cur, hg, hs, _⟩ := h
  exact ⟨cur[o]'(by omega), by simp [World.cell?, hg, Array.getElem?_eq_getElem (show o < cur.size by omega)]⟩
theorem DR.free (h : DR W g bs kept j) (o : Nat) : W.frozen? ⟨g, o, none⟩ = false := by
  obtain ⟨cur, hg, _⟩ := h
  simp [World.frozen?, hg]
theorem DR.old (h : DR W g bs kept j) {i : Nat} {e : flP.Pr} (hi : j ≤ i) (he : bs[i]? = some e) : W.cell? ⟨g, i * 3, none⟩ = some (.string e.k) ∧ W.cell? ⟨g, i * 3 + 1, none⟩ = some (.string e.v) ∧ W.cell? ⟨g, i * 3 + 2, none⟩ = some (.bool e.g) := by
  obtain ⟨cur, hg, _, _, hc⟩ := h
  obtain ⟨h1, h2, h3⟩ := hc i e hi he
  exact ⟨bcell hg h1, bcell hg h2, bcell hg h3⟩
theorem DR.skip (h : DR W g bs kept j) : DR W g bs kept (j + 1) := by
  obtain ⟨cur, h1, h2, h3, h4⟩ := h
  exact ⟨cur, h1, h2, h3, fun i e hi => h4 i e (by omega)⟩
theorem DR.keep (h : DR W g bs kept j) (hk : kept.length ≤ j) (hj : j < bs.length) (x k : ByteArray) (q : Bool) : DR (((W.setCell ⟨g, kept.length * 3, none⟩ (.string x)).setCell ⟨g, kept.length * 3 + 1, none⟩ (.string k)).setCell ⟨g, kept.length * 3 + 2, none⟩ (.bool q)) g bs (kept ++ [⟨x, k, q⟩]) (j + 1) := by
  obtain ⟨cur, h1, h2, h3, h4⟩ := h
  refine ⟨_, bset (bset (bset h1 _ _) _ _) _ _, by simpa using h2, fun i e he => ?_, fun i e hi he => ?_⟩
  · rcases Nat.lt_trichotomy i kept.length with hi | rfl | hi
    · rw [List.getElem?_append_left hi] at he
      have hold := h3 i e he
      simp only [Array.getElem?_setIfInBounds]
      repeat rw [if_neg (by omega)]
      exact hold
    · rw [List.getElem?_append_right (Nat.le_refl _)] at he
      simp at he
      subst he
      simp [Array.getElem?_setIfInBounds]
      omega
    · rw [List.getElem?_append_right (by omega)] at he
      have := (List.getElem?_eq_some_iff.1 he).1
      simp at this
      omega
  · have hold := h4 i e (by omega) he
    simp only [Array.getElem?_setIfInBounds]
    repeat rw [if_neg (by omega)]
    exact hold
theorem three {cur : Array Value} {i : Nat} {e : flP.Pr} (h : ∀ (j : Nat) (v : Value), (flP.c e)[j]? = some v → cur[0 + i * 3 + j]? = some v) : cur[i * 3]? = some (.string e.k) ∧ cur[i * 3 + 1]? = some (.string e.v) ∧ cur[i * 3 + 2]? = some (.bool e.g) := by
  have h0 := h 0 _ rfl
  have h1 := h 1 _ rfl
  have h2 := h 2 _ rfl
  rw [Nat.zero_add] at h0 h1 h2
  exact ⟨h0, h1, h2⟩
theorem DR.of (h : OwnO flP.c 3 40 W g 0 bs bs.length) : DR W g bs (bs.take j) j := by
  obtain ⟨cur, h1, h2, h3⟩ := h
  refine ⟨cur, h1, by omega, fun i e he => ?_, fun i e hi he => three (h3 i e (List.getElem?_eq_some_iff.1 he).1 he)⟩
  have hi := (List.getElem?_eq_some_iff.1 he).1
  rw [List.length_take] at hi
  rw [List.getElem?_take_of_lt (by omega)] at he
  exact three (h3 i e (by omega) he)
/-- what is left when the rest of the row has been cleared -/
theorem DR.cleared (h : DR W g bs kept j) (hk : kept.length ≤ bs.length) (vs : List Value) : OwnO flP.c 3 40 (W.setCells g (kept.length * 3) vs) g 0 kept kept.length := by
  obtain ⟨cur, h1, h2, h3, _⟩ := h
  have e : ∀ (vs : List Value) (W : World) (o : Nat), W.setCells g o vs = fl.setRow W g o vs := by
    intro vs
    induction vs with
    | nil => intros; rfl
    | cons v r ih => intro W o; simp only [World.setCells, fl.setRow]; exact ih _ _
  rw [e]
  refine ⟨_, fl.setRow_heap vs W _ cur h1, by rw [fl.setArr_size]; omega, fun i f hi hf j v hv => ?_⟩
  obtain ⟨a, b, c⟩ := h3 i f hf
  match j, hv with
  | 0, hv => cases hv; rw [fl.setArr_off _ _ _ _ (.inl (by omega)), Nat.zero_add]; exact a
  | 1, hv => cases hv; rw [fl.setArr_off _ _ _ _ (.inl (by omega)), Nat.zero_add]; exact b
  | 2, hv => cases hv; rw [fl.setArr_off _ _ _ _ (.inl (by omega)), Nat.zero_add]; exact c
end

section
variable {w w1 w2 : World} {r : Option Nat} {g : Nat}
theorem gb_refl (w : World) (r : Option Nat) : w.grownBy w r := ⟨rfl, rfl, rfl, Nat.le_refl _, fun _ _ _ => rfl⟩
theorem gb_below (h : w.grownBy w1 r) (hb : Below w1.heap.size w1 w2) : w.grownBy w2 r := h.trans ⟨hb.os, hb.tape, hb.output, hb.size, fun k hk _ => hb.block k hk⟩
theorem gb_set (h : w.grownBy w1 (some g)) (o : Nat) (v : Value) : w.grownBy (w1.setCell ⟨g, o, none⟩ v) (some g) := by
  have hb : Below 0 w1 (w1.setCell ⟨g, o, none⟩ v) := (Below.refl 0 w1).setCell (Nat.zero_le _) v
  exact h.trans ⟨hb.os, hb.tape, hb.output, hb.size, fun k hk hne => RowKit.Below.heap_setCell _ _ _ _ (by intro e; exact hne (by rw [e]))⟩
theorem gb_sets : ∀ (vs : List Value) (w1 : World) (o : Nat), w.grownBy w1 (some g) → w.grownBy (w1.setCells g o vs) (some g)
  | [], w1, o, h => h
  | v :: r, w1, o, h => gb_sets r _ _ (gb_set h o v)
end
/-- what is left of the first j -/
def K (bs : List flP.Pr) (j : Nat) : List flP.Pr := (bs.take j).filter fun b => !b.g
theorem K_len (bs : List flP.Pr) (j : Nat) : (K bs j).length ≤ j := Nat.le_trans (List.length_filter_le _ _) (by rw [List.length_take]; omega)
theorem K_next {bs : List flP.Pr} {j : Nat} {b : flP.Pr} (h : bs[j]? = some b) : K bs (j + 1) = if b.g then K bs j else K bs j ++ [b] := by
  unfold K
  obtain ⟨hj, he⟩ := List.getElem?_eq_some_iff.1 h
  rw [List.take_succ_eq_append_getElem hj, List.filter_append, he]
  cases hm : b.g <;> simp [hm]
theorem K_first {bs : List flP.Pr} {k : Nat} (h : ∀ i b, i < k → bs[i]? = some b → b.g = false) : K bs k = bs.take k := by
  unfold K
  rw [List.filter_eq_self]
  intro b hb
  obtain ⟨i, hi⟩ := List.getElem?_of_mem hb
  have hl := (List.getElem?_eq_some_iff.1 hi).1
  rw [List.length_take] at hl
  rw [List.getElem?_take_of_lt (by omega)] at hi
  simp [h i b (by omega) hi]
theorem K_all (bs : List flP.Pr) : K bs bs.length = bs.filter fun b => !b.g := by
  unfold K
  rw [List.take_length]
theorem K_lt {bs : List flP.Pr} {k : Nat} {b : flP.Pr} (h : bs[k]? = some b) (hm : b.g = true) : ∀ m, (K bs (k + 1 + m)).length ≤ k + m
  | 0 => by
    rw [Nat.add_zero, K_next h, hm, if_pos rfl]
    have := K_len bs k
    omega
  | m + 1 => by
    have ih := K_lt h hm m
    rw [show k + 1 + (m + 1) = k + 1 + m + 1 by omega]
    cases hx : bs[k + 1 + m]? with
    | none =>
      have hle : bs.length ≤ k + 1 + m := by simpa using hx
      have : K bs (k + 1 + m + 1) = K bs (k + 1 + m) := by
        unfold K
        rw [List.take_of_length_le (by omega), List.take_of_length_le hle]
      rw [this]
      omega
    | some c =>
      rw [K_next hx]
      split
      · omega
      · simp; omega

/-- clear: the rest of the row -/
theorem run_clear (W : World) (g n c o : Nat) (ty : TypeId) (hn : 0 < n) (hc : ∀ j, j < n * 3 → (W.cell? ⟨g, o + j, none⟩).isSome = true) (hf : ∀ j, W.frozen? ⟨g, j, none⟩ = false) :
    ∃ vs, (Builtin.clear_ #[24] ty #[.slice (some ⟨g, o, none⟩) n c]).run Try.prog W = .ok (.tuple #[]) (W.setCells g o vs) := by
  have hzl : (Builtin.zeroCells #[.string ByteArray.empty, .string ByteArray.empty, .bool false] n).toList.length = n * 3 := by simp [Builtin.zeroCells]
  have hz1 : ∀ v ∈ (Builtin.zeroCells #[.string ByteArray.empty, .string ByteArray.empty, .bool false] n).toList, v.oneCell' = true := by
    intro v hv
    simp [Builtin.zeroCells] at hv
    obtain ⟨a, _, rfl⟩ := hv
    have : a % 3 < 3 := Nat.mod_lt _ (by omega)
    generalize a % 3 = r at this ⊢
    match r, this with
    | 0, _ => rfl
    | 1, _ => rfl
    | 2, _ => rfl
  have hst := run_storeCells_cells (P := Try.prog) g o (Builtin.zeroCells #[.string ByteArray.empty, .string ByteArray.empty, .bool false] n).toList 0 W (by rw [hzl]; simpa using hc) (by rw [hzl]; intro j _; exact hf _) hz1
  simp only [Nat.add_zero] at hst
  refine ⟨(Builtin.zeroCells #[.string ByteArray.empty, .string ByteArray.empty, .bool false] n).toList, ?_⟩
  obtain ⟨m, rfl⟩ : ∃ m, n = m + 1 := ⟨n - 1, by omega⟩
  have hz := Try.zeroValue40
  simp only [Builtin.clear_]
  simp [run_underlying Try.underlying24, hz]
  rw [show (Value.agg #[.string ⟨#[]⟩, .string ⟨#[]⟩, .bool false]).cells = #[.string ByteArray.empty, .string ByteArray.empty, .bool false] from rfl, hst]
  rfl

set_option maxRecDepth 100000 in
set_option maxHeartbeats 1000000 in
theorem index_func (bs : List flP.Pr) (g cap : Nat) (w : World) (hl : bs.length ≤ 1048576) (hR : Row flP.c 3 w w.heap.size (some ⟨g, 0, none⟩) bs) :
    Calls Try.prog 67 #[.slice (some ⟨g, 0, none⟩) bs.length cap, .func (.func 45) #[] #[]] w fun e w' => ∃ k : Nat, ((k = bs.length ∧ e = .returned (.int .i64 (-1))) ∨ (k < bs.length ∧ e = .returned (.int .i64 k) ∧ ∃ b, bs[k]? = some b ∧ b.g = true)) ∧ (∀ i b, i < k → bs[i]? = some b → b.g = false) ∧ Below w.heap.size w w' := by
  have HR : Hid (Row flP.c 3 w w.heap.size (some ⟨g, 0, none⟩) bs) := hR
  clear hR
  go_enter Try.func67, Try.ntmps67
  go_wp2
  go_loopw [8] (fun x wr => ∃ k : Nat, k ≤ bs.length ∧ x = .int .i64 k ∧ Hid (∀ i b, i < k → bs[i]? = some b → b.g = false) ∧ Below w.heap.size w wr) (fun x _ => bs.length - (intOf x).toNat)
  case atStart => exact ⟨0, Nat.zero_le _, rfl, fun i b hi => by omega, Below.refl _ _⟩
  case round =>
    obtain ⟨k, hk, rfl, hno, hbel⟩ := hrel
    by_cases hkl : k < bs.length
    · have HG : Hid (bs[k]? = some bs[k]) := List.getElem?_eq_getElem hkl
      obtain ⟨b', off', hbo, hglt, hcc⟩ := HR.out.resolve_left (by rintro rfl; simp at hkl)
      cases hbo
      have cc : ∀ (j : Nat) (v : Value), (flP.c bs[k])[j]? = some v → wr.cell? ⟨g, k * 3 + j, none⟩ = some v := fun j v hv => by have h1 := hcc k _ HG.out j v hv; rw [Nat.zero_add] at h1; exact (hbel.cell (p := ⟨g, k * 3 + j, none⟩) hglt).trans h1
      have c0 := cc 0 _ rfl
      have c1 := cc 1 _ rfl
      have c2 := cc 2 _ rfl
      clear cc hcc
      have hcl := closure bs[k] wr
      obtain ⟨⟨x, y, z⟩, he⟩ : ∃ e, bs[k] = e := ⟨_, rfl⟩
      rw [he] at c0 c1 c2 HG hcl
      have c0 : wr.cell? ⟨g, k * 3, none⟩ = some (.string x) := c0
      have c1 : wr.cell? ⟨g, k * 3 + 1, none⟩ = some (.string y) := c1
      have c2 : wr.cell? ⟨g, k * 3 + 2, none⟩ = some (.bool z) := c2
      have hbs := hbel.size
      clear he
      cases z with
      | true =>
        go_wp2_with (go_at_call 45; refine hcl.mono ?_; rintro e w1 ⟨rfl, hb1⟩)
        go_ret
        exact ⟨k, .inr ⟨hkl, rfl, _, HG.out, rfl⟩, hno.out, hbel.trans (hb1.mono hbs)⟩
      | false =>
        go_wp2_with (go_at_call 45; refine hcl.mono ?_; rintro e w1 ⟨rfl, hb1⟩)
        go_roundw
        case rel =>
          refine ⟨k + 1, by omega, by go_num, fun i b hi hb => ?_, hbel.trans (hb1.mono hbs)⟩
          by_cases e : i = k
          · subst e
            rw [HG.out] at hb
            cases hb
            exact rfl
          · exact hno.out i b (by omega) hb
        case measure => simp [intOf]; omega
    · obtain rfl : k = bs.length := by omega
      go_wp2
      go_ret
      exact ⟨bs.length, .inl ⟨rfl, rfl⟩, hno.out, hbel⟩

set_option maxRecDepth 100000 in
set_option maxHeartbeats 2000000 in
theorem delete_func (bs : List flP.Pr) (g cap : Nat) (w : World) (hl : bs.length ≤ 1048576) (hcap : bs.length ≤ cap) (hR : OwnO flP.c 3 40 w g 0 bs bs.length) :
    Calls Try.prog 44 #[.slice (some ⟨g, 0, none⟩) bs.length cap, .func (.func 45) #[] #[]] w fun e w' => e = .returned (.slice (some ⟨g, 0, none⟩) (bs.filter fun b => !b.g).length cap) ∧ OwnO flP.c 3 40 w' g 0 (bs.filter fun b => !b.g) (bs.filter fun b => !b.g).length ∧ w.grownBy w' (some g) := by
  have hix := index_func bs g cap w hl hR.row
  have HR : Hid (OwnO flP.c 3 40 w g 0 bs bs.length) := hR
  have hglt := hR.lt
  clear hR
  go_enter Try.func44, Try.ntmps44
  go_wp2_with (go_at_call 67; fail)
  refine hix.mono ?_
  rintro e w1 ⟨k0, hcase, hno, hb1⟩
  clear hix
  rcases hcase with ⟨rfl, rfl⟩ | ⟨hk0, rfl, hit⟩
  · have hf : (bs.filter fun b => !b.g) = bs := by
      rw [List.filter_eq_self]
      intro b hb
      obtain ⟨i, hi⟩ := List.getElem?_of_mem hb
      simp [hno i b (List.getElem?_eq_some_iff.1 hi).1 hi]
    have HF : Hid ((bs.filter fun b => !b.g) = bs) := hf
    clear hf hno
    go_wp2
    go_ret
    rw [HF.out]
    exact ⟨rfl, HR.out.below hb1 hglt, gb_below (gb_refl _ _) hb1⟩
  · have HNO : Hid (∀ i b, i < k0 → bs[i]? = some b → b.g = false) := hno
    obtain ⟨b0, hit0, hit1⟩ := hit
    have HIT : Hid (bs[k0]? = some b0 ∧ b0.g = true) := ⟨hit0, hit1⟩
    have HD0 : Hid (DR w1 g bs (K bs (k0 + 1)) (k0 + 1)) := by
      have h1 := (DR.of (j := k0) (HR.out.below hb1 hglt)).skip
      rw [← K_first hno] at h1
      have h2 := K_next hit0
      rw [hit1, if_pos rfl] at h2
      unfold Hid
      rw [h2]
      exact h1
    have HL0 : Hid ((K bs (k0 + 1)).length = k0) := by
      have h2 := K_next hit0
      rw [hit1, if_pos rfl] at h2
      unfold Hid
      rw [h2, K_first hno, List.length_take]
      omega
    have hg1 : w.grownBy w1 (some g) := gb_below (gb_refl _ _) hb1
    have HLT : Hid (∀ j, k0 + 1 ≤ j → (K bs j).length ≤ j - 1) := fun j hj => by
      have := K_lt hit0 hit1 (j - (k0 + 1))
      rw [show k0 + 1 + (j - (k0 + 1)) = j by omega] at this
      omega
    have hk1 : ((k0 : Int) == -1) = false := by simp
    clear hno hit0 hit1
    go_wp2
    clear hk1
    go_loopw [5, 6] (fun y x wr => ∃ j : Nat, k0 + 1 ≤ j ∧ j ≤ bs.length ∧ x = .int .i64 j ∧ y = .int .i64 ((K bs j).length : Nat) ∧ Hid (DR wr g bs (K bs j) j) ∧ w.grownBy wr (some g)) (fun _ x _ => bs.length - (intOf x).toNat)
    case atStart => exact ⟨k0 + 1, by omega, by omega, by go_num, by rw [HL0.out], HD0, hg1⟩
    case round =>
      obtain ⟨j, hj0, hj, rfl, rfl, hdr, hgr⟩ := hrel
      have hkl := HLT.out j hj0
      by_cases hjl : j < bs.length
      · have HG : Hid (bs[j]? = some bs[j]) := List.getElem?_eq_getElem hjl
        obtain ⟨c0, c1, c2⟩ := hdr.out.old (Nat.le_refl _) HG.out
        have HK := fun b h => K_next (bs := bs) (j := j) (b := b) h
        obtain ⟨⟨x, y, z⟩, he⟩ : ∃ e, bs[j] = e := ⟨_, rfl⟩
        rw [he] at c0 c1 c2 HG
        have HKN : Hid (K bs (j + 1) = if z then K bs j else K bs j ++ [⟨x, y, z⟩]) := HK _ HG.out
        have c0 : wr.cell? ⟨g, j * 3, none⟩ = some (.string x) := c0
        have c1 : wr.cell? ⟨g, j * 3 + 1, none⟩ = some (.string y) := c1
        have c2 : wr.cell? ⟨g, j * 3 + 2, none⟩ = some (.bool z) := c2
        have hba : Below wr.heap.size wr (wr.alloc (.cells #[.string x, .string y, .bool z] 40)) := (Below.refl _ _).alloc (Nat.le_refl _) _
        have hcl := closure ⟨x, y, z⟩ (wr.alloc (.cells #[.string x, .string y, .bool z] 40))
        have hgl := hdr.out.lt
        have HV := bnew wr #[.string x, .string y, .bool z] 40
        obtain ⟨i, hi⟩ : ∃ i, (K bs j).length = i := ⟨_, rfl⟩
        have HI : Hid ((K bs j).length = i) := hi
        rw [hi] at hkl ⊢
        have hin : (i : Int) < (bs.length : Int) := by omega
        have HVH : Hid ((wr.alloc (.cells #[.string x, .string y, .bool z] 40)).heap[wr.heap.size]? = some (.cells #[.string x, .string y, .bool z] 40 (0, 0))) := HV
        clear he hi HK HV
        cases z with
        | true =>
          go_wp2_with (go_at_call 45; refine hcl.mono ?_; rintro e w2 ⟨rfl, hb2⟩)
          go_roundw
          case rel =>
            have hx : K bs (j + 1) = K bs j := by simpa using HKN.out
            refine ⟨j + 1, by omega, by omega, by go_num, by rw [hx, HI.out], ?_, gb_below (gb_below hgr hba) hb2⟩
            unfold Hid
            rw [hx]
            exact (DR.below (DR.below hdr.out hba hgl) hb2 (by simp; omega)).skip
          case measure => simp [intOf]; omega
        | false =>
          go_wp2_with (go_at_call 45; refine hcl.mono ?_; rintro e w2 ⟨rfl, hb2⟩; have hv2 := bstay HVH.out hb2 (by simp); have d0 : w2.cell? ⟨wr.heap.size, 0, none⟩ = some (.string x) := bcell hv2 rfl; have d1 : w2.cell? ⟨wr.heap.size, 1, none⟩ = some (.string y) := bcell hv2 rfl; have d2 : w2.cell? ⟨wr.heap.size, 2, none⟩ = some (.bool false) := bcell hv2 rfl; have hd2 := DR.below (DR.below hdr.out hba hgl) hb2 (by simp; omega); obtain ⟨o0, p0⟩ := hd2.at (i * 3) (by omega); obtain ⟨o1, p1⟩ := hd2.at (i * 3 + 1) (by omega); obtain ⟨o2, p2⟩ := hd2.at (i * 3 + 2) (by omega); have z0 := hd2.free (i * 3); have z1 := hd2.free (i * 3 + 1); have z2 := hd2.free (i * 3 + 2); have HD2 : Hid (DR w2 g bs (K bs j) j) := hd2; clear hd2 hv2)
          go_roundw
          case rel =>
            have hx : K bs (j + 1) = K bs j ++ [⟨x, y, false⟩] := by simpa using HKN.out
            have hkk := HI.out
            refine ⟨j + 1, by omega, by omega, by go_num, by rw [hx]; simp [hkk], ?_, gb_set (gb_set (gb_set (gb_below (gb_below hgr hba) hb2) _ _) _ _) _ _⟩
            unfold Hid
            rw [hx]
            have := DR.keep HD2.out (by omega) hjl x y false
            rw [hkk] at this
            exact this
          case measure => simp [intOf]; omega
      · obtain rfl : j = bs.length := by omega
        obtain ⟨i, hi⟩ : ∃ i, (K bs bs.length).length = i := ⟨_, rfl⟩
        rw [hi] at hkl ⊢
        have hcd := run_clear wr g (bs.length - i) (cap - i) (i * 3)
        have HI : Hid ((K bs bs.length).length = i) := hi
        have HCL : Hid (∀ ty, ∃ vs, (Builtin.clear_ #[24] ty #[.slice (some ⟨g, i * 3, none⟩) (bs.length - i) (cap - i)]).run Try.prog wr = .ok (.tuple #[]) (wr.setCells g (i * 3) vs)) := fun ty => hcd ty (by omega) (fun t ht => by obtain ⟨v, hv⟩ := hdr.out.at (i * 3 + t) (by omega); rw [hv]; rfl) (fun t => hdr.out.free t)
        have hin : i ≤ bs.length := by omega
        obtain ⟨vs, hvs⟩ := HCL.out 0
        have HV : Hid (OwnO flP.c 3 40 (wr.setCells g (i * 3) vs) g 0 (K bs bs.length) (K bs bs.length).length) := by
          have := hdr.out.cleared (by omega) vs
          rw [hi] at this
          unfold Hid
          rw [hi]
          exact this
        have hgf : w.grownBy (wr.setCells g (i * 3) vs) (some g) := gb_sets vs wr _ hgr
        obtain ⟨WF, hWF⟩ : ∃ WF, wr.setCells g (i * 3) vs = WF := ⟨_, rfl⟩
        rw [hWF] at hvs HV hgf
        have HWF : Hid (wr.setCells g (i * 3) vs = WF) := hWF
        clear hcd hi hWF HCL
        go_wp2
        refine bodyPost_ret (v := .slice (some ⟨g, 0, none⟩) i cap) (by simp [results, Try.results44, go_sem]) rfl ?_
        rw [← K_all]
        exact ⟨by rw [HI.out], HV.out, hgf⟩
end Go.Proofs.Ytokaoafbgebelaa.dg

/- The program's TableMerge: what it stands on. -/
namespace Go.Proofs.Ytokaoafbgebelaa.mgi
open Go.ChangeShapes Go.WideShapes Go.ChangeAt Go.RowKit Go.Proofs.Ytokaoafbgebelaa.fl Go.Proofs.Ytokaoafbgebelaa.fo Go.Proofs.Ytokaoafbgebelaa.rn Go.Proofs.Ytokaoafbgebelaa.tk Go.Proofs.Ytokaoafbgebelaa.tko Go.Proofs.Ytokaoafbgebelaa.tan Go.Proofs.Ytokaoafbgebelaa.mga Go.Proofs.Ytokaoafbgebelaa.mgd Go.Proofs.Ytokaoafbgebelaa.sci
set_option linter.unusedVariables false

theorem as_rv {w : World} {B : Nat} {v : Value} {l : List flP.Pr} (h : w.ownsRow B 40 3 v l.length (l.flatMap flP.c)) : ∃ qa qc, v = .slice qa l.length qc ∧ l.length ≤ qc ∧ RV w B ⟨qa, qc, l⟩ := by
  have h' := h
  obtain ⟨h0, ⟨rfl, h1⟩ | ⟨g, cap, cur, rfl, hB, hg, h4⟩⟩ := h
  · obtain rfl : l = [] := List.eq_nil_of_length_eq_zero h1
    exact ⟨none, 0, rfl, Nat.le_refl _, .inl rfl⟩
  · exact ⟨_, cap, rfl, by have := h4.1; omega, .inr ⟨g, rfl, hB, owns_ownO flP.c_len h'⟩⟩
set_option maxRecDepth 100000 in
theorem index_nil (w : World) :
    Calls Try.prog 67 #[.slice none 0 0, .func (.func 45) #[] #[]] w fun e w' => e = .returned (.int .i64 (-1)) ∧ w' = w := by
  go_enter Try.func67, Try.ntmps67
  go_wp2
  go_loopw [8] (fun x wr => x = .int .i64 0 ∧ wr = w) (fun _ _ => 0)
  case atStart => exact ⟨rfl, rfl⟩
  case round =>
    obtain ⟨rfl, hw⟩ := hrel
    obtain rfl := hw.symm
    go_wp2
    go_ret
    exact ⟨rfl, rfl⟩
set_option maxRecDepth 100000 in
theorem delete_nil (w : World) :
    Calls Try.prog 44 #[.slice none 0 0, .func (.func 45) #[] #[]] w fun e w' => e = .returned (.slice none 0 0) ∧ w' = w := by
  have hix := index_nil w
  go_enter Try.func44, Try.ntmps44
  go_wp2_with (go_at_call 67; fail)
  refine hix.mono ?_
  rintro e w0 ⟨rfl, hw0⟩
  obtain rfl := hw0.symm
  go_wp2
  go_ret
  exact ⟨rfl, rfl⟩
theorem delete_any (bs : List flP.Pr) (v : Value) (B : Nat) (w : World) (hl : bs.length ≤ 1048576) (ho : w.ownsRow B 40 3 v bs.length (bs.flatMap flP.c)) :
    Calls Try.prog 44 #[v, .func (.func 45) #[] #[]] w fun e w' => ∃ qa qc, e = .returned (.slice qa (bs.filter fun b => !b.g).length qc) ∧ ((bs.filter fun b => !b.g).length ≤ qc ∧ RV w' B ⟨qa, qc, bs.filter fun b => !b.g⟩) ∧ Below B w w' := by
  have h' := ho
  obtain ⟨h0, ⟨rfl, h1⟩ | ⟨g, cap, cur, rfl, hB, hg, h4, h5⟩⟩ := ho
  · obtain rfl : bs = [] := List.eq_nil_of_length_eq_zero h1
    refine (delete_nil w).mono ?_
    rintro e w' ⟨rfl, rfl⟩
    exact ⟨none, 0, rfl, ⟨Nat.le_refl _, .inl rfl⟩, Below.refl _ _⟩
  · refine (dg.delete_func bs g cap w hl h4 (owns_ownO flP.c_len h')).mono ?_
    rintro e w' ⟨rfl, ho', hgr⟩
    exact ⟨_, cap, rfl, ⟨by have := List.length_filter_le (fun b : flP.Pr => !b.g) bs; omega, .inr ⟨g, rfl, hB, ho'⟩⟩, ⟨hgr.os, hgr.tape, hgr.output, hgr.size, fun k hk => hgr.block k (Nat.lt_of_lt_of_le hk (Nat.le_trans hB (Nat.le_of_lt (Array.getElem?_eq_some_iff.1 hg).1))) (fun e => by have := Option.some.inj e; omega)⟩⟩

theorem at_new {ks : List Rn} {x r : Rn} {i j : Nat} (hi : i + 2 ≤ ks.length) (h : (ks.take i ++ x :: ks.drop (i + 2))[j]? = some r) : (j < i ∧ ks[j]? = some r) ∨ (j = i ∧ r = x) ∨ (i < j ∧ ks[j + 1]? = some r) := by
  have hl : (ks.take i).length = i := by rw [List.length_take]; omega
  rcases Nat.lt_trichotomy j i with hj | hj | hj
  · rw [List.getElem?_append_left (by omega), List.getElem?_take, if_pos hj] at h
    exact .inl ⟨hj, h⟩
  · subst hj
    rw [List.getElem?_append_right (by omega), hl, Nat.sub_self] at h
    simp at h
    exact .inr (.inl ⟨rfl, h.symm⟩)
  · rw [List.getElem?_append_right (by omega), hl, show j - i = (j - i - 1) + 1 by omega, List.getElem?_cons_succ, List.getElem?_drop] at h
    refine .inr (.inr ⟨hj, ?_⟩)
    rw [← h]
    congr 1
    omega
/-- what stands when the two runs are one -/
structure NM (w : World) (BX : Array Value) (B n4 g h n : Nat) (ys : List flP.Pr) (ks : List Rn) (X : World) : Prop where
  bel : Below w.heap.size w X
  box : X.heap[w.heap.size]? = some (.cells BX 27 (0, 0))
  res : X.heap[w.heap.size + 1]? = some (.cells #[.slice none 0 0, .slice none 0 0] 27 (0, 0))
  out : X.heap[n4]? = some (.cells #[.slice (some ⟨g, 0, none⟩) ys.length ys.length, .slice (some ⟨h, 0, none⟩) (n - 1) n] 27 (0, 0))
  ta : TA X B (some ⟨g, 0, none⟩) (some ⟨h, 0, none⟩) ys ks
theorem NM.on {w X X' : World} {BX : Array Value} {B n4 g h n : Nat} {ys : List flP.Pr} {ks : List Rn} (hx : NM w BX B n4 g h n ys ks X) (hb : Below X.heap.size X X') : NM w BX B n4 g h n ys ks X' :=
  ⟨hx.bel.trans (hb.mono hx.bel.size), bstay hx.box hb (Array.getElem?_eq_some_iff.1 hx.box).1, bstay hx.res hb (Array.getElem?_eq_some_iff.1 hx.res).1, bstay hx.out hb (Array.getElem?_eq_some_iff.1 hx.out).1, hx.ta.on hb⟩
theorem nm_of {w W4 w6 w7 : World} {BX : Array Value} {B n4 g h n i qc : Nat} {qa : Option Addr} {ks : List Rn} {ys m : List flP.Pr} (h0 : Below w.heap.size w W4) (hA : W4.heap[w.heap.size]? = some (.cells BX 27 (0, 0))) (hR : W4.heap[w.heap.size + 1]? = some (.cells #[.slice none 0 0, .slice none 0 0] 27 (0, 0))) (hN : W4.heap[n4]? = some (.cells #[.slice (some ⟨g, 0, none⟩) ys.length ys.length, .slice (some ⟨h, 0, none⟩) n n] 27 (0, 0))) (hO : Own flP.c 3 40 W4 g ys ys.length) (hor : OR W4 B h n ks) (hne : ∀ (i : Nat) (r : Rn), ks[i]? = some r → r.a ≠ some ⟨g, 0, none⟩) (hB : w.heap.size + 2 ≤ B) (hg : B ≤ g) (hh : B ≤ h) (hn4 : w.heap.size + 2 ≤ n4) (hn : n = ks.length) (hi : i + 2 ≤ n)
    (h6 : Below W4.heap.size W4 w6) (hrv : RV w6 W4.heap.size ⟨qa, qc, m⟩) (hown : w7.ownsRow B 24 1 (.slice (some ⟨h, 0, none⟩) (n - 1) n) (n - 1) ((ks.take i ++ (⟨qa, qc, m⟩ : Rn) :: ks.drop (i + 2)).flatMap cR)) (hgr : (w6.alloc (.cells #[.slice qa m.length qc] 24)).grownBy w7 (some h)) : NM w BX B n4 g h n ys (ks.take i ++ (⟨qa, qc, m⟩ : Rn) :: ks.drop (i + 2)) (w7.setCell ⟨n4, 1, none⟩ (.slice (some ⟨h, 0, none⟩) (n - 1) n)) := by
  subst hn
  have hs6 := h6.size
  have hng : n4 ≠ g := fun e => own_ne (by decide) hO hN e.symm
  obtain ⟨cu, hcu, _⟩ := hor.blk
  have hhg : h ≠ g := fun e => own_ne (by decide) hO hcu e.symm
  have hhn : h ≠ n4 := fun e => by subst e; rw [hN] at hcu; simp at hcu
  have up7 : ∀ k, k < w6.heap.size → k ≠ h → w7.heap[k]? = w6.heap[k]? := fun k hk hkh => (hgr.block k (by simp; omega) (fun e => hkh (Option.some.inj e))).trans (Below.heap_alloc w6 _ k hk)
  have blk7 : ∀ k, k < W4.heap.size → k ≠ h → w7.heap[k]? = W4.heap[k]? := fun k hk hkh => (up7 k (by omega) hkh).trans (h6.block k hk)
  have hl := hor.lt
  have lN := (Array.getElem?_eq_some_iff.1 hN).1
  have n7 : w7.heap[n4]? = _ := (blk7 n4 lN (Ne.symm hhn)).trans hN
  have lA := (Array.getElem?_eq_some_iff.1 hA).1
  have lR := (Array.getElem?_eq_some_iff.1 hR).1
  have hs7 := hgr.size
  rw [World.size_alloc] at hs7
  have hb7 : Below w.heap.size w w7 := ⟨hgr.os.trans (h6.os.trans h0.os), hgr.tape.trans (h6.tape.trans h0.tape), hgr.output.trans (h6.output.trans h0.output), by have := h0.size; omega, fun k hk => (blk7 k (by have := h0.size; omega) (by omega)).trans (h0.block k hk)⟩
  have hownX : (w7.setCell ⟨n4, 1, none⟩ (.slice (some ⟨h, 0, none⟩) (ks.length - 1) ks.length)).ownsRow B 24 1 (.slice (some ⟨h, 0, none⟩) (ks.length - 1) ks.length) (ks.length - 1) ((ks.take i ++ (⟨qa, qc, m⟩ : Rn) :: ks.drop (i + 2)).flatMap cR) :=
    hown.kept (row := some n4) ⟨rfl, rfl, rfl, by simp, fun k hk hne => Below.heap_setCell _ _ _ _ (fun e => hne (by rw [e]))⟩ (.inr fun e => hhn (Option.some.inj e))
  obtain ⟨cur, hcur⟩ := sct.typed hownX rfl
  have onX : ∀ k, k < w6.heap.size → k ≠ h → k ≠ n4 → (w7.setCell ⟨n4, 1, none⟩ (.slice (some ⟨h, 0, none⟩) (ks.length - 1) ks.length)).heap[k]? = w6.heap[k]? := fun k hk h1 h2 => (Below.heap_setCell _ _ _ _ h2).trans (up7 k hk h1)
  have run : ∀ (j : Nat) (r : Rn), ks[j]? = some r → ∃ h', r.a = some ⟨h', 0, none⟩ ∧ B ≤ h' ∧ h' < W4.heap.size ∧ OwnO flP.c 3 40 (w7.setCell ⟨n4, 1, none⟩ (.slice (some ⟨h, 0, none⟩) (ks.length - 1) ks.length)) h' 0 r.l r.l.length := fun j r hr => by
    obtain ⟨h', e, _, hB', ho'⟩ := hor.own j r hr
    refine ⟨h', e, hB', ho'.lt, (of_own ho').kept ?_⟩
    exact (onX h' (by have := ho'.lt; omega) (own_ne (by decide) ho' hcu) (own_ne (by decide) ho' hN)).trans (h6.block h' ho'.lt)
  refine ⟨hb7.setCell (show w.heap.size ≤ n4 by omega) _, boff ((blk7 _ lA (by omega)).trans hA) _ _ _ (by omega), boff ((blk7 _ lR (by omega)).trans hR) _ _ _ (by omega), bset n7 1 _, ?_⟩
  refine mga.of_runs (.inr ⟨g, 0, rfl, hg, (of_own hO).kept ?_⟩) hh hcur (fls.row_of cR_len (by simp; omega) hownX) (fun j r hr => ?_) (fun j1 j2 r s hj hr hs n1 n2 => ?_) (fun j r hr n1 k hk => ?_)
  · exact (onX g (by have := hO.lt; omega) (Ne.symm hhg) (Ne.symm hng)).trans (h6.block g hO.lt)
  · rcases at_new hi hr with ⟨_, hr⟩ | ⟨_, rfl⟩ | ⟨_, hr⟩
    · obtain ⟨h', e, hB', _, ho'⟩ := run _ _ hr
      exact .inr ⟨h', e, hB', ho'⟩
    · rcases hrv with h1 | ⟨gq, e, hq, ho⟩
      · exact .inl h1
      · exact .inr ⟨gq, e, by omega, ho.kept (onX gq ho.lt (by omega) (by omega))⟩
    · obtain ⟨h', e, hB', _, ho'⟩ := run _ _ hr
      exact .inr ⟨h', e, hB', ho'⟩
  · have new : ∀ (j : Nat) (r : Rn), ks[j]? = some r → m ≠ [] → r.a ≠ qa := fun j r hr hm e => by
      obtain ⟨h', e', _, hlt, _⟩ := run _ _ hr
      obtain ⟨gq, eq, hq, _⟩ := hrv.resolve_left hm
      simp only at eq
      rw [e', eq] at e
      have := congrArg Addr.block (Option.some.inj e)
      simp only at this
      omega
    rcases at_new hi hr with ⟨a1, hr⟩ | ⟨a1, rfl⟩ | ⟨a1, hr⟩ <;> rcases at_new hi hs with ⟨a2, hs⟩ | ⟨a2, rfl⟩ | ⟨a2, hs⟩
    · exact hor.nd _ _ _ _ hj hr hs
    · exact new _ _ hr n2
    · exact hor.nd _ _ _ _ (by omega) hr hs
    · omega
    · omega
    · exact (new _ _ hs n1).symm
    · omega
    · omega
    · exact hor.nd _ _ _ _ (by omega) hr hs
  · obtain ⟨_, g1, o1', a1, rfl⟩ := hk
    cases a1
    rcases at_new hi hr with ⟨_, hr⟩ | ⟨_, rfl⟩ | ⟨_, hr⟩
    · exact hne _ _ hr
    · obtain ⟨gq, eq, hq, _⟩ := hrv.resolve_left n1
      simp only at eq
      intro e
      rw [eq] at e
      have := congrArg Addr.block (Option.some.inj e)
      simp only at this
      have := hO.lt
      omega
    · exact hne _ _ hr
end Go.Proofs.Ytokaoafbgebelaa.mgi

/- The program's TableMerge. -/
namespace Go.Proofs.Ytokaoafbgebelaa.mgi
open Go.ChangeShapes Go.WideShapes Go.ChangeAt Go.RowKit Go.Proofs.Ytokaoafbgebelaa.fl Go.Proofs.Ytokaoafbgebelaa.fo Go.Proofs.Ytokaoafbgebelaa.rn Go.Proofs.Ytokaoafbgebelaa.tk Go.Proofs.Ytokaoafbgebelaa.tko Go.Proofs.Ytokaoafbgebelaa.tan Go.Proofs.Ytokaoafbgebelaa.mga Go.Proofs.Ytokaoafbgebelaa.mgd Go.Proofs.Ytokaoafbgebelaa.sci
set_option linter.unusedVariables false

set_option maxRecDepth 100000 in
set_option maxHeartbeats 4000000 in
theorem impl_merge (ys : List flP.Pr) (rs : List Rn) (ya ra : Option Addr) (yc rc : Nat) (x : Int) (w : World) (F : tb.Fit ys rs) (hx1 : -9223372036854775808 ≤ x) (hx2 : x ≤ 9223372036854775807) (hY : Row flP.c 3 w w.heap.size ya ys) (hR : VR w w.heap.size ra rs) :
    Calls Try.prog 19 #[.agg #[.slice ya ys.length yc, .slice ra rs.length rc], .int .i64 x] w fun e w' => ∃ sa sc ta tc ks, e = .returned (.tuple #[.agg #[.slice sa ys.length sc, .slice ta (ansR ys (rs.map (·.l)) x).length tc], .bool (can ys (rs.map (·.l)) x)]) ∧ ((ys.length ≤ sc ∧ ta.isSome = true ∧ ∀ r ∈ ks, r.l.length ≤ r.c) ∧ ks.map (·.l) = ansR ys (rs.map (·.l)) x) ∧ TA w' w.heap.size sa ta ys ks ∧ Below w.heap.size w w' := by
  have hb : Below w.heap.size w ((w.alloc (.cells #[.slice ya ys.length yc, .slice ra rs.length rc] 27)).alloc (.cells #[.slice none 0 0, .slice none 0 0] 27)) := ((Below.refl _ _).alloc (Nat.le_refl _) _).alloc (by simp) _
  have hA := bold (bnew w #[.slice ya ys.length yc, .slice ra rs.length rc] 27) (.cells #[.slice none 0 0, .slice none 0 0] 27)
  have hRs := bnew (w.alloc (.cells #[.slice ya ys.length yc, .slice ra rs.length rc] 27)) #[.slice none 0 0, .slice none 0 0] 27
  rw [World.size_alloc] at hRs
  obtain ⟨W, hW⟩ : ∃ W, ((w.alloc (.cells #[.slice ya ys.length yc, .slice ra rs.length rc] 27)).alloc (.cells #[.slice none 0 0, .slice none 0 0] 27)) = W := ⟨_, rfl⟩
  have hsW : W.heap.size = w.heap.size + 2 := by rw [← hW]; simp
  rw [hW] at hb hA hRs
  have hok := impl_okb ys rs ya ra yc rc W F (hY.inn hb) (hR.inn hb)
  have HF : Hid (tb.Fit ys rs) := F
  have hrl := F.rl
  have hyl := F.yl
  have HY : Hid (Row flP.c 3 w w.heap.size ya ys) := hY
  have HR : Hid (VR w w.heap.size ra rs) := hR
  have HA : Hid (W.heap[w.heap.size]? = some (.cells #[.slice ya ys.length yc, .slice ra rs.length rc] 27 (0, 0))) := hA
  have HRS : Hid (W.heap[w.heap.size + 1]? = some (.cells #[.slice none 0 0, .slice none 0 0] 27 (0, 0))) := hRs
  have p0 : W.cell? ⟨w.heap.size, 0, none⟩ = some (.slice ya ys.length yc) := bcell hA rfl
  have p1 : W.cell? ⟨w.heap.size, 1, none⟩ = some (.slice ra rs.length rc) := bcell hA rfl
  clear hY hR hA hRs F
  go_enter Try.func19, Try.ntmps19
  go_wp2_with (go_at_call 12; fail)
  clear hW p0 p1
  refine hok.mono ?_
  rintro e w2 ⟨rfl, hb2⟩
  have b2 := bstay HA.out hb2 (by omega)
  have r2 := bstay HRS.out hb2 (by omega)
  have hBw2 : Below w.heap.size w w2 := hb.trans (hb2.mono hb.size)
  have hcp := cpt.copy_table ys rs ya ra yc rc w2 HF.out (HY.out.inn hBw2) (HR.out.inn hBw2)
  have x0 : w2.cell? ⟨w.heap.size, 0, none⟩ = some (.slice ya ys.length yc) := bcell b2 rfl
  have x1 : w2.cell? ⟨w.heap.size, 1, none⟩ = some (.slice ra rs.length rc) := bcell b2 rfl
  have HA2 : Hid (w2.heap[w.heap.size]? = some (.cells #[.slice ya ys.length yc, .slice ra rs.length rc] 27 (0, 0))) := b2
  have HR2 : Hid (w2.heap[w.heap.size + 1]? = some (.cells #[.slice none 0 0, .slice none 0 0] 27 (0, 0))) := r2
  have hs2 : w.heap.size + 2 ≤ w2.heap.size := by have := hb2.size; omega
  clear hok b2 r2 HA HRS hb2
  -- the refusals
  have NO : ∀ (w3 : World) (g h : Nat) (ks : List Rn), can ys (rs.map (·.l)) x = false → ks.map (·.l) = rs.map (·.l) → w2.heap.size + 2 ≤ g → w2.heap.size + 2 ≤ h → Own flP.c 3 40 w3 g ys ys.length → OR w3 (w2.heap.size + 2) h rs.length ks → (∀ (i : Nat) (r : Rn), ks[i]? = some r → r.a ≠ some ⟨g, 0, none⟩) → TA ((w3.setCell ⟨w.heap.size + 1, 0, none⟩ (.slice (some ⟨g, 0, none⟩) ys.length ys.length)).setCell ⟨w.heap.size + 1, 1, none⟩ (.slice (some ⟨h, 0, none⟩) rs.length rs.length)) w.heap.size (some ⟨g, 0, none⟩) (some ⟨h, 0, none⟩) ys ks := fun w3 g h ks _ hm hg hh ho hor hne => (ta_set (B := w2.heap.size + 2) (by have := congrArg List.length hm; simpa using this.symm) (by omega) ho hor hg hh hne _ _).wide (by omega)
  have HNO : Hid (∀ (w3 : World) (g h : Nat) (ks : List Rn), can ys (rs.map (·.l)) x = false → ks.map (·.l) = rs.map (·.l) → w2.heap.size + 2 ≤ g → w2.heap.size + 2 ≤ h → Own flP.c 3 40 w3 g ys ys.length → OR w3 (w2.heap.size + 2) h rs.length ks → (∀ (i : Nat) (r : Rn), ks[i]? = some r → r.a ≠ some ⟨g, 0, none⟩) → TA ((w3.setCell ⟨w.heap.size + 1, 0, none⟩ (.slice (some ⟨g, 0, none⟩) ys.length ys.length)).setCell ⟨w.heap.size + 1, 1, none⟩ (.slice (some ⟨h, 0, none⟩) rs.length rs.length)) w.heap.size (some ⟨g, 0, none⟩) (some ⟨h, 0, none⟩) ys ks) := NO
  clear NO
  have w1 : IntKind.i64.wrap ((rs.length : Int) - 1) = (rs.length : Int) - 1 := by rw [IntKind.wrap_i64]; omega
  by_cases hgo : okB ys (rs.map (·.l)) = true ∧ 0 ≤ x ∧ x < (rs.length : Int) - 1
  · obtain ⟨hob, hx0, hxl⟩ := hgo
    obtain ⟨i, rfl⟩ : ∃ i : Nat, x = (i : Int) := ⟨x.toNat, by omega⟩
    have hi : i + 2 ≤ rs.length := by omega
    have HOK : Hid (OkT ys (rs.map (·.l))) := okB_true.1 hob
    have HOB : Hid (okB ys (rs.map (·.l)) = true) := hob
    rw [hob]
    have h8 : rs.length ≤ 8 := by have := HOK.out.rl; simpa using this
    have c1 : ¬ ((i : Int) < 0) := by omega
    have c2 : ¬ ((rs.length : Int) - 1 ≤ (i : Int)) := by omega
    clear hob hx0 hx1 hx2
    go_wp2_with (go_at_call 43; fail)
    clear x0 x1
    refine hcp.mono ?_
    rintro e w3 ⟨g, h, ks, rfl, m3, hg3, hh3, ho3, hor3, hne3, hb3⟩
    have l3 : rs.length = ks.length := by have := congrArg List.length m3; simpa using this.symm
    have hal : Below w3.heap.size w3 (w3.alloc (.cells #[.slice (some ⟨g, 0, none⟩) ys.length ys.length, .slice (some ⟨h, 0, none⟩) rs.length rs.length] 27)) := (Below.refl _ _).alloc (Nat.le_refl _) _
    have hN := bnew w3 #[.slice (some ⟨g, 0, none⟩) ys.length ys.length, .slice (some ⟨h, 0, none⟩) rs.length rs.length] 27
    have of4 := ho3.below hal ho3.lt
    have or4 := hor3.on hal
    have hgl := ho3.lt
    have hs3 := hb3.size
    obtain ⟨W4, hW4⟩ : ∃ W4, w3.alloc (.cells #[.slice (some ⟨g, 0, none⟩) ys.length ys.length, .slice (some ⟨h, 0, none⟩) rs.length rs.length] 27) = W4 := ⟨_, rfl⟩
    have hsW4 : W4.heap.size = w3.heap.size + 1 := by rw [← hW4]; simp
    rw [hW4] at hal hN of4 or4
    have hB24 : Below w2.heap.size w2 W4 := hb3.trans (hal.mono hs3)
    have hBw4 : Below w.heap.size w W4 := hBw2.trans (hB24.mono hBw2.size)
    have hv4 : VR W4 W4.heap.size (some ⟨h, 0, none⟩) ks := OR.vr (by rw [← l3]; exact or4)
    have hi2 : i + 2 ≤ ks.length := by omega
    obtain ⟨k1, hk1⟩ : ∃ k1, ks[i]'(by omega) = k1 := ⟨_, rfl⟩
    obtain ⟨k2, hk2⟩ : ∃ k2, ks[i + 1]'(by omega) = k2 := ⟨_, rfl⟩
    have hv2 := two_runs hi2 hv4
    rw [hk1, hk2] at hv2
    have g1 : ks[i]? = some k1 := by rw [← hk1]; exact List.getElem?_eq_getElem _
    have g2 : ks[i + 1]? = some k2 := by rw [← hk2]; exact List.getElem?_eq_getElem _
    have ok1 : OkL k1.l := HOK.out.ro i _ (by rw [← m3]; exact map_at g1)
    have ok2 : OkL k2.l := HOK.out.ro (i + 1) _ (by rw [← m3]; exact map_at g2)
    have hnw := rnw.newest_run [k1, k2] (some ⟨h, i, none⟩) (rs.length - i) W4 (by simp) (fun r hr => by
      simp at hr
      rcases hr with rfl | rfl
      · obtain ⟨_, _, hc, _⟩ := or4.own i _ g1
        exact ⟨ok1.ll, by omega⟩
      · obtain ⟨_, _, hc, _⟩ := or4.own (i + 1) _ g2
        exact ⟨ok2.ll, by omega⟩) (fun l hl => by
      simp at hl
      rcases hl with rfl | rfl
      · exact mgp.asc_of ok1.up
      · exact mgp.asc_of ok2.up) hv2
    have HA4 : Hid (W4.heap[w.heap.size]? = some (.cells #[.slice ya ys.length yc, .slice ra rs.length rc] 27 (0, 0))) := bstay HA2.out hB24 (by omega)
    have HR4 : Hid (W4.heap[w.heap.size + 1]? = some (.cells #[.slice none 0 0, .slice none 0 0] 27 (0, 0))) := bstay HR2.out hB24 (by omega)
    have HN4 : Hid (W4.heap[w3.heap.size]? = some (.cells #[.slice (some ⟨g, 0, none⟩) ys.length ys.length, .slice (some ⟨h, 0, none⟩) rs.length rs.length] 27 (0, 0))) := hN
    have HOF4 : Hid (Own flP.c 3 40 W4 g ys ys.length) := of4
    have HOR4 : Hid (OR W4 (w2.heap.size + 2) h rs.length ks) := or4
    have HCK : Hid (∀ r ∈ ks, r.l.length ≤ r.c) := fun k hk => by obtain ⟨j, hj⟩ := List.getElem?_of_mem hk; obtain ⟨_, _, hc, _⟩ := HOR4.out.own j k hj; omega
    have HNE : Hid (∀ (i : Nat) (r : Rn), ks[i]? = some r → r.a ≠ some ⟨g, 0, none⟩) := hne3
    have HM : Hid (ks.map (·.l) = rs.map (·.l)) := m3
    have HL : Hid (rs.length = ks.length) := l3
    have HG1 : Hid (ks[i]? = some k1) := g1
    have HG2 : Hid (ks[i + 1]? = some k2) := g2
    have HO1 : Hid (OkL k1.l) := ok1
    have HO2 : Hid (OkL k2.l) := ok2
    have t1 : W4.cell? ⟨w3.heap.size, 1, none⟩ = some (.slice (some ⟨h, 0, none⟩) rs.length rs.length) := bcell hN rfl
    have e2 : IntKind.i64.wrap ((i : Int) + 2) = (i : Int) + 2 := by rw [IntKind.wrap_i64]; omega
    have e3 : (0 : Int) ≤ (i : Int) + 2 := by omega
    have e4 : (i : Int) + 2 ≤ (rs.length : Int) := by omega
    have e5 : ¬ rs.length = i := by omega
    have e6 : (i : Int) ≤ (i : Int) + 2 := by omega
    clear hcp ho3 hor3 hne3 hN of4 or4 m3 l3 hal HA2 HR2 hv4 hv2 hk1 hk2 g1 g2 ok1 ok2 hi2
    go_wp2_with (go_at_call 38; fail)
    refine hnw.mono ?_
    rintro e w5 ⟨v5, out, rfl, his, hlen, hown5, hb5⟩
    have e7 := nwL_eq his
    have hm5 : ∀ last : Bool, merged k1.l k2.l last = if last then out.filter (fun e => !e.g) else out := fun last => by
      cases last with
      | false => rw [merged_no]; exact e7
      | true => rw [merged_yes]; exact congrArg _ e7
    have HM5 : Hid (∀ last : Bool, merged k1.l k2.l last = if last then out.filter (fun e => !e.g) else out) := hm5
    have hB5 : Below W4.heap.size W4 w5 := hb5
    have q1 : w5.cell? ⟨w3.heap.size, 1, none⟩ = some (.slice (some ⟨h, 0, none⟩) rs.length rs.length) := bcell (bstay HN4.out hb5 (by omega)) rfl
    have HB5 : Hid (Below W4.heap.size W4 w5) := hb5
    have hdel := delete_any out v5 W4.heap.size w5 (by omega) hown5
    have HRV : Hid (∃ qa qc, v5 = .slice qa out.length qc ∧ out.length ≤ qc ∧ RV w5 W4.heap.size ⟨qa, qc, out⟩) := as_rv hown5
    have REP : ∀ (w6 : World) (qa : Option Addr) (qc : Nat) (m : List flP.Pr), Below W4.heap.size W4 w6 → Calls Try.prog 46 #[.slice (some ⟨h, 0, none⟩) rs.length rs.length, .int .i64 i, .int .i64 ((i : Int) + 2), .slice (some ⟨w6.heap.size, 0, none⟩) 1 1] (w6.alloc (.cells #[.slice qa m.length qc] 24)) fun r w' => r = .returned (.slice (some ⟨h, 0, none⟩) (rs.length - 1) rs.length) ∧ w'.ownsRow (w2.heap.size + 2) 24 1 (.slice (some ⟨h, 0, none⟩) (rs.length - 1) rs.length) (rs.length - 1) ((ks.take i ++ (⟨qa, qc, m⟩ : Rn) :: ks.drop (i + 2)).flatMap cR) ∧ (w6.alloc (.cells #[.slice qa m.length qc] 24)).grownBy w' (some h) := fun w6 qa qc m h6 => by
      have hal : Below W4.heap.size W4 (w6.alloc (.cells #[.slice qa m.length qc] 24)) := h6.alloc h6.size _
      have hox : OR (w6.alloc (.cells #[.slice qa m.length qc] 24)) (w2.heap.size + 2) h ks.length ks := by rw [← HL.out]; exact HOR4.out.on hal
      have := rpl.replace_run ks h i (w2.heap.size + 2) qa qc m w6.heap.size (w6.alloc (.cells #[.slice qa m.length qc] 24)) (by rw [← HL.out]; exact hi) (by rw [← HL.out]; exact hrl) (by have := HOR4.out.lt; have := h6.size; omega) (or_owns hox hh3 (by rw [← HL.out]; unfold maxLen; omega)) (bnew w6 _ _)
      rw [← HL.out] at this
      exact this
    have HREP : Hid (∀ (w6 : World) (qa : Option Addr) (qc : Nat) (m : List flP.Pr), Below W4.heap.size W4 w6 → Calls Try.prog 46 #[.slice (some ⟨h, 0, none⟩) rs.length rs.length, .int .i64 i, .int .i64 ((i : Int) + 2), .slice (some ⟨w6.heap.size, 0, none⟩) 1 1] (w6.alloc (.cells #[.slice qa m.length qc] 24)) fun r w' => r = .returned (.slice (some ⟨h, 0, none⟩) (rs.length - 1) rs.length) ∧ w'.ownsRow (w2.heap.size + 2) 24 1 (.slice (some ⟨h, 0, none⟩) (rs.length - 1) rs.length) (rs.length - 1) ((ks.take i ++ (⟨qa, qc, m⟩ : Rn) :: ks.drop (i + 2)).flatMap cR) ∧ (w6.alloc (.cells #[.slice qa m.length qc] 24)).grownBy w' (some h)) := REP
    have HU : Hid (∀ (w6 : World) (o : Obj), Below W4.heap.size W4 w6 → (w6.alloc o).cell? ⟨w3.heap.size, 1, none⟩ = some (.slice (some ⟨h, 0, none⟩) rs.length rs.length)) := fun w6 o h6 => bcell (bold (bstay HN4.out h6 (by omega)) o) rfl
    clear hnw his e7 hm5 t1 hb5 hB5 hown5 REP
    obtain hl2 | hl2 : i + 2 = rs.length ∨ i + 2 ≠ rs.length := by omega
    case' inl =>
      have HDE : Hid (decide (i + 2 = rs.length) = true) := by unfold Hid; simpa using hl2
      have d1 : ((i : Int) + 2 == (rs.length : Int)) = true := by simp; omega
      clear hl2
      go_wp2_with (go_at_call 44; fail)
      refine hdel.mono ?_
      rintro e w6 ⟨qa, qc, rfl, ⟨hqc, hrv6⟩, hb6⟩
      obtain ⟨m, hm⟩ : ∃ m, out.filter (fun b => !b.g) = m := ⟨_, rfl⟩
      rw [hm] at hqc hrv6 ⊢
      have HQC : Hid (m.length ≤ qc) := hqc
      clear hqc
      have HMM : Hid (merged k1.l k2.l (decide (i + 2 = rs.length)) = m) := by unfold Hid; rw [HDE.out, HM5.out]; exact hm
      have HRV6 : Hid (RV w6 W4.heap.size ⟨qa, qc, m⟩) := hrv6
      have HB6 : Hid (Below W4.heap.size W4 w6) := HB5.out.trans hb6
      clear hdel hrv6 hb6 hm q1 HRV HM5 HB5 HDE
    case' inr =>
      have HDE : Hid (decide (i + 2 = rs.length) = false) := by unfold Hid; simpa using hl2
      have d1 : ((i : Int) + 2 == (rs.length : Int)) = false := by simp; omega
      clear hl2
      obtain ⟨qa, qc, rfl, hqc, hrv6⟩ := HRV.out
      obtain ⟨m, hm⟩ : ∃ m, m = out := ⟨_, rfl⟩
      subst hm
      have HQC : Hid (m.length ≤ qc) := hqc
      clear hqc
      have HMM : Hid (merged k1.l k2.l (decide (i + 2 = rs.length)) = m) := by unfold Hid; rw [HDE.out, HM5.out]; rfl
      obtain ⟨w6, hw6⟩ : ∃ w6, w6 = w5 := ⟨_, rfl⟩
      subst hw6
      have HRV6 : Hid (RV w6 W4.heap.size ⟨qa, qc, m⟩) := hrv6
      have HB6 : Hid (Below W4.heap.size W4 w6) := HB5.out
      clear hdel hrv6 HRV HM5 HB5 HDE
    all_goals
      have hrep := HREP.out w6 qa qc m HB6.out
      have u1 := HU.out w6 (.cells #[.slice qa m.length qc] 24) HB6.out
      have u2 : w6.cell? ⟨w3.heap.size, 1, none⟩ = some (.slice (some ⟨h, 0, none⟩) rs.length rs.length) := bcell (bstay HN4.out HB6.out (by omega)) rfl
      go_wp2_with (go_at_call 46; fail)
      clear u1 u2
      refine hrep.mono ?_
      rintro e w7 ⟨rfl, hown7, hgr7⟩
      have hnm := nm_of hBw4 HA4.out HR4.out HN4.out HOF4.out HOR4.out HNE.out (by omega) hg3 hh3 (by omega) HL.out hi HB6.out HRV6.out hown7 hgr7
      have n7 : w7.heap[w3.heap.size]? = some (.cells #[.slice (some ⟨g, 0, none⟩) ys.length ys.length, .slice (some ⟨h, 0, none⟩) rs.length rs.length] 27 (0, 0)) := by
        refine ((hgr7.block _ (by have := HB6.out.size; simp; omega) (fun e => ?_)).trans (Below.heap_alloc w6 _ _ (by have := HB6.out.size; omega))).trans ((HB6.out.block _ (by omega)).trans HN4.out)
        obtain ⟨cu, hcu, _⟩ := HOR4.out.blk
        have e2 := Option.some.inj e
        rw [← e2, HN4.out] at hcu
        simp at hcu
      have y1 : w7.cell? ⟨w3.heap.size, 1, none⟩ = some (.slice (some ⟨h, 0, none⟩) rs.length rs.length) := bcell n7 rfl
      have yf := bfree n7 1
      obtain ⟨X, hX⟩ : ∃ X, w7.setCell ⟨w3.heap.size, 1, none⟩ (.slice (some ⟨h, 0, none⟩) (rs.length - 1) rs.length) = X := ⟨_, rfl⟩
      rw [hX] at hnm
      obtain ⟨ks', hks'⟩ : ∃ ks', ks.take i ++ (⟨qa, qc, m⟩ : Rn) :: ks.drop (i + 2) = ks' := ⟨_, rfl⟩
      rw [hks'] at hnm
      have hkm : ks'.map (·.l) = mrg (rs.map (·.l)) i := by
        have hmi : i + 2 ≤ (rs.map (·.l)).length := by rw [List.length_map]; exact hi
        have hg1 : (rs.map (·.l))[i]? = some k1.l := by rw [← HM.out]; exact map_at HG1.out
        have hg2 : (rs.map (·.l))[i + 1]? = some k2.l := by rw [← HM.out]; exact map_at HG2.out
        rw [mrg_at hmi, (List.getElem?_eq_some_iff.1 hg1).2, (List.getElem?_eq_some_iff.1 hg2).2, ← hks', List.map_append, List.map_cons, List.map_take, List.map_drop, HM.out, List.length_map, HMM.out]
      have HKC : Hid (∀ r ∈ ks', r.l.length ≤ r.c) := fun r hr => by
        rw [← hks'] at hr
        rcases List.mem_append.1 hr with hr | hr
        · exact HCK.out r (List.mem_of_mem_take hr)
        · rcases List.mem_cons.1 hr with rfl | hr
          · exact HQC.out
          · exact HCK.out r (List.mem_of_mem_drop hr)
      have hkl : ks'.length = rs.length - 1 := by rw [← hks', List.length_append, List.length_cons, List.length_take, List.length_drop, ← HL.out]; omega
      have hfit : tb.Fit ys ks' := by
        refine ⟨hyl, by omega, HF.out.yo, fun r hr => ?_⟩
        have hold : ∀ k ∈ ks, k.l.length ≤ 1048576 ∧ ∀ e ∈ k.l, e.k.size ≤ 1048576 ∧ e.v.size ≤ 1048576 := fun k hk => by
          obtain ⟨q, hq, e⟩ := List.mem_map.1 (show k.l ∈ rs.map (·.l) by rw [← HM.out]; exact List.mem_map.2 ⟨k, hk, rfl⟩)
          rw [← e]
          exact HF.out.ro q hq
        have hk1 := List.mem_of_getElem? HG1.out
        have hk2 := List.mem_of_getElem? HG2.out
        have ha1 := mgp.asc_of HO1.out.up
        have ha2 := mgp.asc_of HO2.out.up
        rw [← hks'] at hr
        rcases List.mem_append.1 hr with hr | hr
        · exact hold r (List.mem_of_mem_take hr)
        · rcases List.mem_cons.1 hr with rfl | hr
          · rw [← HMM.out]
            refine ⟨?_, fun e he => ?_⟩
            · have := merged_le ha1 ha2 (decide (i + 2 = rs.length))
              have := HO1.out.ll
              have := HO2.out.ll
              show (merged k1.l k2.l (decide (i + 2 = rs.length))).length ≤ _
              omega
            · rcases merged_mem ha1 ha2 he with h | h
              · exact (hold k1 hk1).2 e h
              · exact (hold k2 hk2).2 e h
          · exact hold r (List.mem_of_mem_drop hr)
      have HNX : Hid (NM w #[.slice ya ys.length yc, .slice ra rs.length rc] (w2.heap.size + 2) w3.heap.size g h rs.length ys ks' X) := hnm
      have hok2 := impl_okb ys ks' (some ⟨g, 0, none⟩) (some ⟨h, 0, none⟩) ys.length rs.length X hfit hnm.ta.rows.1 hnm.ta.rows.2
      rw [hkl, hkm] at hok2
      have t0 : X.cell? ⟨w3.heap.size, 0, none⟩ = some (.slice (some ⟨g, 0, none⟩) ys.length ys.length) := bcell hnm.out rfl
      have t1 : X.cell? ⟨w3.heap.size, 1, none⟩ = some (.slice (some ⟨h, 0, none⟩) (rs.length - 1) rs.length) := bcell hnm.out rfl
      have HKM : Hid (ks'.map (·.l) = mrg (rs.map (·.l)) i) := hkm
      have HKL : Hid (ks'.length = rs.length - 1) := hkl
      clear hnm hown7 hgr7 hrep n7 hkm hkl hfit hks' HRV6 HB6 HMM
      go_wp2_with (go_at_call 12; fail)
      clear hX t0 t1 y1 yf
      refine hok2.mono ?_
      rintro e w8 ⟨rfl, hb8⟩
      have HX8 : Hid (NM w #[.slice ya ys.length yc, .slice ra rs.length rc] (w2.heap.size + 2) w3.heap.size g h rs.length ys ks' w8) := HNX.out.on hb8
      clear hok2 hb8 HNX
      have hin : inB (rs.map (·.l)) (i : Int) = true := by unfold inB; simp; omega
      cases hob2 : okB ys (mrg (rs.map (·.l)) i) with
      | true =>
        have HC : Hid (can ys (rs.map (·.l)) (i : Int) = true) := by unfold Hid can; rw [HOB.out, hin, Int.toNat_natCast, hob2]; rfl
        have HQ : Hid (ansR ys (rs.map (·.l)) (i : Int) = mrg (rs.map (·.l)) i) := by unfold Hid; rw [ans_yes HC.out, Int.toNat_natCast]
        have y0 : w8.cell? ⟨w3.heap.size, 0, none⟩ = some (.slice (some ⟨g, 0, none⟩) ys.length ys.length) := bcell HX8.out.out rfl
        have y1 : w8.cell? ⟨w3.heap.size, 1, none⟩ = some (.slice (some ⟨h, 0, none⟩) (rs.length - 1) rs.length) := bcell HX8.out.out rfl
        have r0 : w8.cell? ⟨w.heap.size + 1, 0, none⟩ = some (.slice none 0 0) := bcell HX8.out.res rfl
        have r1 : w8.cell? ⟨w.heap.size + 1, 1, none⟩ = some (.slice none 0 0) := bcell HX8.out.res rfl
        have f0 := bfree HX8.out.res 0
        have f1 := bfree HX8.out.res 1
        clear hob2 hin
        go_wp2
        have htn : Tn w8 ((w8.setCell ⟨w.heap.size + 1, 0, none⟩ (.slice (some ⟨g, 0, none⟩) ys.length ys.length)).setCell ⟨w.heap.size + 1, 1, none⟩ (.slice (some ⟨h, 0, none⟩) (rs.length - 1) rs.length)) (fun k => k = w.heap.size + 1) := Tn.set (Tn.set (Tn.refl w8 (fun k => k = w.heap.size + 1)) (S := fun k => k = w.heap.size + 1) rfl 0 _) rfl 1 _
        exact bodyPost_ret (v := .tuple #[.agg #[.slice (some ⟨g, 0, none⟩) ys.length ys.length, .slice (some ⟨h, 0, none⟩) (rs.length - 1) rs.length], .bool true]) (by simp [results, Try.results19, go_sem, r0, r1]) rfl ⟨some ⟨g, 0, none⟩, ys.length, some ⟨h, 0, none⟩, rs.length, ks', by rw [HQ.out, HC.out, ← HKM.out, List.length_map, HKL.out], ⟨⟨Nat.le_refl _, rfl, HKC.out⟩, by rw [HQ.out]; exact HKM.out⟩, (HX8.out.ta.turn htn (fun k hk => by omega)).wide (by omega), (HX8.out.bel.setCell (Nat.le_succ _) _).setCell (Nat.le_succ _) _⟩
      | false =>
        have HC : Hid (can ys (rs.map (·.l)) (i : Int) = false) := by unfold Hid can; rw [HOB.out, hin, Int.toNat_natCast, hob2]; rfl
        have y0 : w8.cell? ⟨w.heap.size, 0, none⟩ = some (.slice ya ys.length yc) := bcell HX8.out.box rfl
        have y1 : w8.cell? ⟨w.heap.size, 1, none⟩ = some (.slice ra rs.length rc) := bcell HX8.out.box rfl
        have hcp := cpt.copy_table ys rs ya ra yc rc w8 HF.out (HY.out.inn HX8.out.bel) (HR.out.inn HX8.out.bel)
        have hs8 : w.heap.size + 1 < w8.heap.size := (Array.getElem?_eq_some_iff.1 HX8.out.res).1
        clear hob2 hin
        go_wp2_with (go_at_call 43; fail)
        clear y0 y1
        refine hcp.mono ?_
        rintro e w9 ⟨g9, h9, k9, rfl, m9, hg9, hh9, ho9, hor9, hne9, hb9⟩
        have l9 : rs.length = k9.length := by have := congrArg List.length m9; simpa using this.symm
        have r9 := bstay HX8.out.res hb9 hs8
        have r0 : w9.cell? ⟨w.heap.size + 1, 0, none⟩ = some (.slice none 0 0) := bcell r9 rfl
        have r1 : w9.cell? ⟨w.heap.size + 1, 1, none⟩ = some (.slice none 0 0) := bcell r9 rfl
        have f0 := bfree r9 0
        have f1 := bfree r9 1
        have HTA : Hid (TA ((w9.setCell ⟨w.heap.size + 1, 0, none⟩ (.slice (some ⟨g9, 0, none⟩) ys.length ys.length)).setCell ⟨w.heap.size + 1, 1, none⟩ (.slice (some ⟨h9, 0, none⟩) rs.length rs.length)) w.heap.size (some ⟨g9, 0, none⟩) (some ⟨h9, 0, none⟩) ys k9) := (ta_set (B := w8.heap.size + 2) l9 (by omega) ho9 hor9 hg9 hh9 hne9 _ _).wide (by omega)
        have HC9 : Hid (∀ r ∈ k9, r.l.length ≤ r.c) := fun k hk => by obtain ⟨j, hj⟩ := List.getElem?_of_mem hk; obtain ⟨_, _, hc, _⟩ := hor9.own j k hj; omega
        have HM9 : Hid (k9.map (·.l) = rs.map (·.l)) := m9
        have HB9 : Hid (Below w.heap.size w w9) := HX8.out.bel.trans (hb9.mono HX8.out.bel.size)
        clear hcp m9 ho9 hor9 hne9 l9 r9 hb9
        go_wp2
        exact bodyPost_ret (v := .tuple #[.agg #[.slice (some ⟨g9, 0, none⟩) ys.length ys.length, .slice (some ⟨h9, 0, none⟩) rs.length rs.length], .bool false]) (by simp [results, Try.results19, go_sem, r0, r1]) rfl ⟨some ⟨g9, 0, none⟩, ys.length, some ⟨h9, 0, none⟩, rs.length, k9, by rw [ans_no HC.out, HC.out, List.length_map], ⟨⟨Nat.le_refl _, rfl, HC9.out⟩, by rw [ans_no HC.out]; exact HM9.out⟩, HTA.out, (HB9.out.setCell (Nat.le_succ _) _).setCell (Nat.le_succ _) _⟩
  · have HC : Hid (can ys (rs.map (·.l)) x = false) := by
      unfold Hid can
      cases h1 : okB ys (rs.map (·.l)) with
      | false => rfl
      | true =>
        have : inB (rs.map (·.l)) x = false := by
          unfold inB
          simp only [List.length_map, decide_eq_false_iff_not]
          exact fun h => hgo ⟨h1, h.1, by omega⟩
        rw [this]
        rfl
    obtain ⟨ob, hob⟩ : ∃ ob, okB ys (rs.map (·.l)) = ob := ⟨_, rfl⟩
    have hgo2 : ob = false ∨ (ob = true ∧ x < 0) ∨ (ob = true ∧ ¬ x < 0 ∧ (rs.length : Int) - 1 ≤ x) := by
      rw [hob] at hgo
      cases ob with
      | false => exact .inl rfl
      | true =>
        by_cases h : x < 0
        · exact .inr (.inl ⟨rfl, h⟩)
        · exact .inr (.inr ⟨rfl, h, by
            by_cases h2 : (rs.length : Int) - 1 ≤ x
            · exact h2
            · exact absurd ⟨rfl, by omega, by omega⟩ hgo⟩)
    rw [hob]
    clear hob hgo
    rcases hgo2 with rfl | ⟨rfl, h⟩ | ⟨rfl, h, h2⟩
    all_goals
      go_wp2_with (go_at_call 43; fail)
      clear x0 x1
      refine hcp.mono ?_
      rintro e w3 ⟨g, h, ks, rfl, m3, hg3, hh3, ho3, hor3, hne3, hb3⟩
      have r3 := bstay HR2.out hb3 (by omega)
      have r0 : w3.cell? ⟨w.heap.size + 1, 0, none⟩ = some (.slice none 0 0) := bcell r3 rfl
      have r1 : w3.cell? ⟨w.heap.size + 1, 1, none⟩ = some (.slice none 0 0) := bcell r3 rfl
      have f0 := bfree r3 0
      have f1 := bfree r3 1
      have HTA := HNO.out w3 g h ks HC.out m3 hg3 hh3 ho3 hor3 hne3
      have HTA : Hid (TA ((w3.setCell ⟨w.heap.size + 1, 0, none⟩ (.slice (some ⟨g, 0, none⟩) ys.length ys.length)).setCell ⟨w.heap.size + 1, 1, none⟩ (.slice (some ⟨h, 0, none⟩) rs.length rs.length)) w.heap.size (some ⟨g, 0, none⟩) (some ⟨h, 0, none⟩) ys ks) := HTA
      have HC3 : Hid (∀ r ∈ ks, r.l.length ≤ r.c) := fun k hk => by obtain ⟨j, hj⟩ := List.getElem?_of_mem hk; obtain ⟨_, _, hc, _⟩ := hor3.own j k hj; omega
      have HM : Hid (ks.map (·.l) = rs.map (·.l)) := m3
      have HB3 : Hid (Below w.heap.size w w3) := hBw2.trans (hb3.mono hBw2.size)
      clear hcp m3 ho3 hor3 hne3 r3 hb3
      go_wp2
      exact bodyPost_ret (v := .tuple #[.agg #[.slice (some ⟨g, 0, none⟩) ys.length ys.length, .slice (some ⟨h, 0, none⟩) rs.length rs.length], .bool false]) (by simp [results, Try.results19, go_sem, r0, r1]) rfl ⟨some ⟨g, 0, none⟩, ys.length, some ⟨h, 0, none⟩, rs.length, ks, by rw [ans_no HC.out, HC.out, List.length_map], ⟨⟨Nat.le_refl _, rfl, HC3.out⟩, by rw [ans_no HC.out]; exact HM.out⟩, HTA.out, (HB3.out.setCell (Nat.le_succ _) _).setCell (Nat.le_succ _) _⟩
end Go.Proofs.Ytokaoafbgebelaa.mgi
