/- The program's Pop where it cannot be: a copy of the queue. -/
import Derived.Test.YtnlcmheahihlpaaCopyRows
import Derived.Test.YtnlcmheahihlpaaFlHeld
import Derived.Test.YtnlcmheahihlpaaFlatOwn
import Derived.Deep.DeepAppendWide
import Derived.Laws.CopyOwn
import Derived.Test.YtnlcmheahihlpaaQw18
import Derived.Test.YtnlcmheahihlpaaQw09
import Derived.Test.YtnlcmheahihlpaaQw12
import Derived.Test.YtnlcmheahihlpaaQw10

/- slices.Insert of one held one into a row of held ones that has no room: the same row with it in its place, in a row of its own. -/
namespace Go.Proofs.Ytnlcmheahihlpaa.inh
open Go.ChangeShapes Go.WideShapes Go.ChangeAt Go.RowKit Go.Proofs.Ytnlcmheahihlpaa.fl
set_option linter.unusedVariables false

theorem infoX : ∃ i0, Try.prog.info? 55 = some i0 ∧ i0.zero = some (.agg #[.int .i64 0, .int .i64 0, .int .i64 0, .string ByteArray.empty, .string ByteArray.empty, .string ByteArray.empty, .bool false]) ∧ i0.size = 7 ∧ i0.bytes = 80 := by
  have h : (Try.prog.info? 55).map (fun i => (i.zero, i.size, i.bytes)) = some (some (.agg #[.int .i64 0, .int .i64 0, .int .i64 0, .string ByteArray.empty, .string ByteArray.empty, .string ByteArray.empty, .bool false]), 7, 80) := by kernel_rfl
  cases hh : Try.prog.info? 55 with
  | none => rw [hh] at h; cases h
  | some i => rw [hh] at h; simp at h; exact ⟨i, rfl, h.1, h.2.1, h.2.2⟩
theorem own_form {w : World} {B n : Nat} {U : TypeId} {s : Nat} {v : Value} {xs : List Value} (h : w.ownsRow B U s v (n + 1) xs) : ∃ g cap, v = .slice (some ⟨g, 0, none⟩) (n + 1) cap := by
  obtain ⟨_, ⟨rfl, h0⟩ | ⟨g, cap, cur, rfl, _⟩⟩ := h
  · omega
  · exact ⟨g, cap, rfl⟩
theorem owns_at {w : World} {B n s g c : Nat} {U : TypeId} {xs : List Value} (h : w.ownsRow B U s (.slice (some ⟨g, 0, none⟩) n c) n xs) : B ≤ g ∧ ∃ cur, w.heap[g]? = some (.cells cur U (0, 0)) := by
  obtain ⟨_, ⟨h1, _⟩ | ⟨g', cap', cur, h1, h2, h3, _⟩⟩ := h
  · cases h1
  cases h1
  exact ⟨h2, cur, h3⟩
theorem add_at (g o j : Nat) : (⟨g, o, none⟩ : Addr).add j = ⟨g, o + j, none⟩ := by unfold Addr.add; split <;> simp_all
theorem oneX (ms : List flH.Hd) : ∀ u ∈ ms.flatMap flH.c, u.oneCell' = true := fun u hu => by
  obtain ⟨e, _, he⟩ := List.mem_flatMap.1 hu
  simp [flH.c] at he
  rcases he with rfl | rfl | rfl | rfl | rfl | rfl | rfl <;> rfl
/-- the cells of an owned row -/
theorem owns_cells {α : Type} {c : α → List Value} {n B g cap : Nat} {U : TypeId} {l : List α} {w : World} (hn : ∀ e, (c e).length = n) (h : w.ownsRow B U n (.slice (some ⟨g, 0, none⟩) l.length cap) l.length (l.flatMap c)) : ∀ (j : Nat) (u : Value), (l.flatMap c)[j]? = some u → w.cell? ⟨g, j, none⟩ = some u := fun j u hu => by
  obtain ⟨_, ⟨h1, _⟩ | ⟨g', cap', cur, h1, h2, h3, h4, h5, h6, h7⟩⟩ := h
  · cases h1
  cases h1
  rw [← h7] at hu
  have hlt := (List.getElem?_eq_some_iff.1 hu).1
  rw [List.length_take] at hlt
  rw [List.getElem?_take_of_lt (by omega)] at hu
  exact bcell h3 (by simpa using hu)
theorem flat_take {α : Type} {c : α → List Value} (l : List α) (i : Nat) : (l.take i).flatMap c ++ (l.drop i).flatMap c = l.flatMap c := by rw [← List.flatMap_append, List.take_append_drop]
/-- two copies into a row: what was ahead, what is put in, what stood from there on -/
theorem two_copies {xs v cs rest : List Value} {o1 o2 : Nat} (h1 : xs.length = o1) (h2 : o1 + v.length = o2) (hr : v.length + cs.length ≤ rest.length) :
    (((xs ++ rest).take o1 ++ v ++ (xs ++ rest).drop (o1 + v.length)).take o2 ++ cs ++ ((xs ++ rest).take o1 ++ v ++ (xs ++ rest).drop (o1 + v.length)).drop (o2 + cs.length)) = xs ++ v ++ cs ++ rest.drop (v.length + cs.length) := by
  subst h1
  subst h2
  rw [List.take_left, List.drop_append, List.drop_eq_nil_of_le (by omega), List.nil_append, show xs.length + v.length - xs.length = v.length by omega]
  have e1 : (xs ++ v).length = xs.length + v.length := List.length_append
  rw [← e1, List.take_left, List.drop_append, List.drop_eq_nil_of_le (by omega), List.nil_append, List.drop_drop]
  congr 2
  omega
/-- the row behind it is owned -/
theorem owns_new {B g cap n : Nat} {U : TypeId} {w : World} {cur : Array Value} {ys tl : List Value} (hg : w.heap[g]? = some (.cells cur U (0, 0))) (hB : B ≤ g) (hc : cur.toList = ys ++ tl) (hy : ys.length = n * 7) (hn : n ≤ cap) (hm : cap ≤ maxLen) (hs : cur.size = cap * 7) : w.ownsRow B U 7 (.slice (some ⟨g, 0, none⟩) n cap) n ys :=
  ⟨hy, .inr ⟨g, cap, cur, rfl, hB, hg, hn, hm, hs, by rw [hc, ← hy, List.take_left]⟩⟩

def ws (b g i n G : Nat) : List (Nat × Value) := [(46, .slice (some ⟨b, 0, none⟩) (n + 1) G), (47, .int .i64 i), (48, .int .i64 1), (49, .int .i64 ((i : Int) + 1)), (50, .slice (some ⟨b, (i + 1) * 7, none⟩) (n - i) (G - (i + 1))), (51, .slice (some ⟨g, 0, none⟩) n n), (52, .int .i64 i), (53, .slice (some ⟨g, i * 7, none⟩) (n - i) (n - i)), (54, .int .i64 ((n - i : Nat) : Int))]

set_option maxRecDepth 100000 in
set_option maxHeartbeats 4000000 in
theorem insert_mid (l : List flH.Hd) (g i B : Nat) (bt bo bq : Int) (bx bk bb : ByteArray) (ba : Bool) (ga : Nat) (w : World) (hi : i < l.length) (hl : l.length ≤ 1048576) (hB : B ≤ w.heap.size) (ho : w.ownsRow B 55 7 (.slice (some ⟨g, 0, none⟩) l.length l.length) l.length (l.flatMap flH.c)) (ha : w.heap[ga]? = some (.cells #[.int .i64 bt, .int .i64 bo, .int .i64 bq, .string bx, .string bk, .string bb, .bool ba] 55 (0, 0))) :
    Calls Try.prog 55 #[.slice (some ⟨g, 0, none⟩) l.length l.length, .int .i64 i, .slice (some ⟨ga, 0, none⟩) 1 1] w fun r w' => ∃ g2 c2, r = .returned (.slice (some ⟨g2, 0, none⟩) (l.length + 1) c2) ∧ w'.ownsRow B 55 7 (.slice (some ⟨g2, 0, none⟩) (l.length + 1) c2) (l.length + 1) ((l.take i ++ ⟨bt, bo, ⟨bq, bx, bk, bb, ba⟩⟩ :: l.drop i).flatMap flH.c) ∧ Below w.heap.size w w' := by
  obtain ⟨i1, ki, kz0, kz1, kz2⟩ := infoX
  have hcells := owns_cells flH.c_len ho
  have hgl : g < w.heap.size := by obtain ⟨_, cur, hcur⟩ := owns_at ho; exact (Array.getElem?_eq_some_iff.1 hcur).1
  have hgal := (Array.getElem?_eq_some_iff.1 ha).1
  obtain ⟨n, hn⟩ : ∃ n, l.length = n := ⟨_, rfl⟩
  have hxl : ((l.take i).flatMap flH.c).length = i * 7 := by rw [flat_len flH.c_len, List.length_take]; congr 1; omega
  have hdl : ((l.drop i).flatMap flH.c).length = (n - i) * 7 := by rw [flat_len flH.c_len, List.length_drop, hn]
  have hxc : ∀ (j : Nat) (u : Value), ((l.take i).flatMap flH.c)[j]? = some u → w.cell? ((⟨g, 0, none⟩ : Addr).add j) = some u := fun j u hu => by
    rw [add_at, Nat.zero_add]
    refine hcells j u ?_
    rw [← flat_take l i, List.getElem?_append_left (List.getElem?_eq_some_iff.1 hu).1]
    exact hu
  have hdc : ∀ (j : Nat) (u : Value), ((l.drop i).flatMap flH.c)[j]? = some u → w.cell? ((⟨g, i * 7, none⟩ : Addr).add j) = some u := fun j u hu => by
    rw [add_at]
    refine hcells (i * 7 + j) u ?_
    rw [← flat_take l i, List.getElem?_append_right (by rw [hxl]; omega), hxl, show i * 7 + j - i * 7 = j by omega]
    exact hu
  rw [hn] at hi hl
  simp only [hn]
  have hz := fun ty => az.run_append_zeros (P := Try.prog) w 25 3 ty 55 i1 _ Try.underlying25 Try.underlying3 ki kz0 ⟨g, 0, none⟩ i n ((l.take i).flatMap flH.c) (by rw [hxl, kz1]) hxc (n + 1 - i) (by rw [kz1]; omega) (by omega) (by omega) (by rw [kz2]; omega) (by rw [kz2]; exact growslice_fits_wide (by omega) (by omega))
  rw [show i + (n + 1 - i) = n + 1 by omega] at hz
  have hG1 := grownCap_ge w (n + 1) n 55
  have hG2 := grownCap_le_maxLen w (n + 1) n 55 (by unfold maxLen; omega)
  obtain ⟨G, hG⟩ : ∃ G, grownCap w (n + 1) n 55 = G := ⟨_, rfl⟩
  rw [hG] at hz hG1 hG2
  obtain ⟨rest, hrest⟩ : ∃ rest : List Value, rest.length = (G - i) * 7 ∧ ∀ zc : Array Value, zc = (Value.agg #[.int .i64 0, .int .i64 0, .int .i64 0, .string ByteArray.empty, .string ByteArray.empty, .string ByteArray.empty, .bool false]).cells → (((l.take i).flatMap flH.c).toArray ++ Builtin.zeroCells zc (n + 1 - i) ++ Builtin.zeroCells zc (G - (n + 1))) = (((l.take i).flatMap flH.c) ++ rest).toArray := by
    refine ⟨(Builtin.zeroCells (Value.agg #[.int .i64 0, .int .i64 0, .int .i64 0, .string ByteArray.empty, .string ByteArray.empty, .string ByteArray.empty, .bool false]).cells (n + 1 - i) ++ Builtin.zeroCells (Value.agg #[.int .i64 0, .int .i64 0, .int .i64 0, .string ByteArray.empty, .string ByteArray.empty, .string ByteArray.empty, .bool false]).cells (G - (n + 1))).toList, ?_, ?_⟩
    · simp [size_zeroCells, Value.cells]; omega
    · rintro zc rfl; simp
  have hrow := hrest.2 _ rfl
  rw [hrow] at hz
  have hk : (n : Int) + 1 - (i : Int) = ((n + 1 - i : Nat) : Int) := by omega
  rw [← hk] at hz
  obtain ⟨xs, hxs⟩ : ∃ xs, (l.take i).flatMap flH.c = xs := ⟨_, rfl⟩
  obtain ⟨cs, hcs⟩ : ∃ cs, (l.drop i).flatMap flH.c = cs := ⟨_, rfl⟩
  rw [hxs] at hz hxl
  rw [hcs] at hdl hdc
  have hfl : (l.take i ++ ⟨bt, bo, ⟨bq, bx, bk, bb, ba⟩⟩ :: l.drop i).flatMap flH.c = xs ++ [Value.int .i64 bt, Value.int .i64 bo, Value.int .i64 bq, Value.string bx, Value.string bk, Value.string bb, Value.bool ba] ++ cs := by rw [← hxs, ← hcs]; simp [flH.c]
  rw [hfl]
  have hone : ∀ u ∈ cs, u.oneCell' = true := by rw [← hcs]; exact oneX _
  have hg1 : (w.drew.alloc (.cells (xs ++ rest).toArray 55)).heap[w.heap.size]? = some (.cells (xs ++ rest).toArray 55 (0, 0)) := bnew w.drew _ _
  have hb1 : Below w.heap.size w (w.drew.alloc (.cells (xs ++ rest).toArray 55)) := (Below.refl _ w).drew.alloc (Nat.le_refl _) _
  obtain ⟨W1, hW1⟩ : ∃ W1, w.drew.alloc (.cells (xs ++ rest).toArray 55) = W1 := ⟨_, rfl⟩
  rw [hW1] at hz hg1 hb1
  have hav := bstay ha hb1 hgal
  have hrl := hrest.1
  have hmin1 : Nat.min 1 (n + 1 - i) = 1 := Nat.min_eq_left (by omega)
  have hmin2 : Nat.min (n - i) (n - i) = n - i := Nat.min_self _
  have hc1 := fun ty => cpr.run_copy_rows (P := Try.prog) W1 25 25 ty 55 i1 w.heap.size (i * 7) (n + 1 - i) (G - i) ⟨ga, 0, none⟩ 1 1 (xs ++ rest).toArray 55 [Value.int .i64 bt, Value.int .i64 bo, Value.int .i64 bq, Value.string bx, Value.string bk, Value.string bb, Value.bool ba] Try.underlying25 ki hg1 (by rw [kz1, hmin1]; rfl) (fun j u hu => by
    rw [add_at, Nat.zero_add]
    match j, hu with
    | 0, hu => cases hu; exact bcell hav rfl
    | 1, hu => cases hu; exact bcell hav rfl
    | 2, hu => cases hu; exact bcell hav rfl
    | 3, hu => cases hu; exact bcell hav rfl
    | 4, hu => cases hu; exact bcell hav rfl
    | 5, hu => cases hu; exact bcell hav rfl
    | 6, hu => cases hu; exact bcell hav rfl
    | j + 7, hu => simp at hu) (by simp; omega) (by simp [Value.oneCell'])
  rw [hmin1] at hc1
  simp only [show ([Value.int .i64 bt, Value.int .i64 bo, Value.int .i64 bq, Value.string bx, Value.string bk, Value.string bb, Value.bool ba] : List Value).length = 7 from rfl] at hc1
  obtain ⟨A1, hA1⟩ : ∃ A1 : List Value, (xs ++ rest).take (i * 7) ++ [Value.int .i64 bt, Value.int .i64 bo, Value.int .i64 bq, Value.string bx, Value.string bk, Value.string bb, Value.bool ba] ++ (xs ++ rest).drop (i * 7 + 7) = A1 := ⟨_, rfl⟩
  rw [hA1] at hc1
  have hA1l : A1.length = i * 7 + (G - i) * 7 := by rw [← hA1]; simp; omega
  have hg2 : (W1.setRow w.heap.size A1.toArray).heap[w.heap.size]? = some (.cells A1.toArray 55 (0, 0)) := setRow_heap W1 w.heap.size _ _ 55 _ hg1
  have hb2 : Below w.heap.size w (W1.setRow w.heap.size A1.toArray) := below_setRow hb1 (Nat.le_refl _) _
  obtain ⟨W2, hW2⟩ : ∃ W2, W1.setRow w.heap.size A1.toArray = W2 := ⟨_, rfl⟩
  rw [hW2] at hc1 hg2 hb2
  have hc2 := fun ty => cpr.run_copy_rows (P := Try.prog) W2.drew 25 25 ty 55 i1 w.heap.size ((i + 1) * 7) (n - i) (G - (i + 1)) ⟨g, i * 7, none⟩ (n - i) (n - i) A1.toArray 55 cs Try.underlying25 ki hg2 (by rw [kz1, hmin2, hdl]) (fun j u hu => by
    have := hdc j u hu
    rw [add_at] at this ⊢
    exact (hb2.drew.cell (p := ⟨g, i * 7 + j, none⟩) hgl).trans this) (by rw [hdl]; simp; omega) hone
  rw [hmin2] at hc2
  have hc2 := fun ty => (hc2 ty).trans rfl
  have htwo : A1.take ((i + 1) * 7) ++ cs ++ A1.drop ((i + 1) * 7 + cs.length) = xs ++ [Value.int .i64 bt, Value.int .i64 bo, Value.int .i64 bq, Value.string bx, Value.string bk, Value.string bb, Value.bool ba] ++ cs ++ rest.drop (7 + cs.length) := by
    rw [← hA1]
    exact two_copies (v := [Value.int .i64 bt, Value.int .i64 bo, Value.int .i64 bq, Value.string bx, Value.string bk, Value.string bb, Value.bool ba]) hxl (by show i * 7 + 7 = (i + 1) * 7; omega) (by show 7 + cs.length ≤ rest.length; omega)
  rw [htwo] at hc2
  have hg3 : (W2.drew.setRow w.heap.size (xs ++ [Value.int .i64 bt, Value.int .i64 bo, Value.int .i64 bq, Value.string bx, Value.string bk, Value.string bb, Value.bool ba] ++ cs ++ rest.drop (7 + cs.length)).toArray).heap[w.heap.size]? = some (.cells (xs ++ [Value.int .i64 bt, Value.int .i64 bo, Value.int .i64 bq, Value.string bx, Value.string bk, Value.string bb, Value.bool ba] ++ cs ++ rest.drop (7 + cs.length)).toArray 55 (0, 0)) := setRow_heap W2.drew w.heap.size _ _ 55 _ hg2
  have hb3 : Below w.heap.size w (W2.drew.setRow w.heap.size (xs ++ [Value.int .i64 bt, Value.int .i64 bo, Value.int .i64 bq, Value.string bx, Value.string bk, Value.string bb, Value.bool ba] ++ cs ++ rest.drop (7 + cs.length)).toArray) := below_setRow hb2.drew (Nat.le_refl _) _
  have hown : (W2.drew.setRow w.heap.size (xs ++ [Value.int .i64 bt, Value.int .i64 bo, Value.int .i64 bq, Value.string bx, Value.string bk, Value.string bb, Value.bool ba] ++ cs ++ rest.drop (7 + cs.length)).toArray).ownsRow B 55 7 (.slice (some ⟨w.heap.size, 0, none⟩) (n + 1) G) (n + 1) (xs ++ [Value.int .i64 bt, Value.int .i64 bo, Value.int .i64 bq, Value.string bx, Value.string bk, Value.string bb, Value.bool ba] ++ cs) :=
    owns_new (tl := rest.drop (7 + cs.length)) hg3 hB (by simp) (by simp; omega) hG1 hG2 (by simp; omega)
  obtain ⟨W3, hW3⟩ : ∃ W3, W2.drew.setRow w.heap.size (xs ++ [Value.int .i64 bt, Value.int .i64 bo, Value.int .i64 bq, Value.string bx, Value.string bk, Value.string bb, Value.bool ba] ++ cs ++ rest.drop (7 + cs.length)).toArray = W3 := ⟨_, rfl⟩
  rw [hW3] at hc2 hb3 hown
  have HB3 : Hid (Below w.heap.size w W3) := hb3
  have HOWN : Hid (W3.ownsRow B 55 7 (.slice (some ⟨w.heap.size, 0, none⟩) (n + 1) G) (n + 1) (xs ++ [Value.int .i64 bt, Value.int .i64 bo, Value.int .i64 bq, Value.string bx, Value.string bk, Value.string bb, Value.bool ba] ++ cs)) := hown
  have i9 : IntKind.i64.wrap ((i : Int) + 1) = (i : Int) + 1 := by rw [IntKind.wrap_i64]; omega
  have r1 : i ≤ n := by omega
  have r2 : (0 : Int) ≤ (i : Int) + 1 := by omega
  have r3 : ¬ G = i + 1 := by omega
  have r4 : ¬ n = i := by omega
  have q1 : ¬ (i : Int) = (n : Int) := by omega
  have q2 : i < G := by omega
  have q3 : i + 1 < G := by omega
  have q4 : (n : Int) < (n : Int) + 1 := by omega
  have q5 : n - i ≠ 0 := by omega
  clear hcells hxc hdc ho ha hrest hrow hav hg1 hg2 hg3 hb1 hb2 hb3 hown hA1 htwo hW1 hW2 hW3 hone hfl hxs hcs hk hG
  go_enter Try.func55, Try.ntmps55
  go_wp2_with (at_builtin; first | refine cpr.wpList_append_run rfl _ _ 25 3 rfl _ _ _ rfl rfl (hz _) ?_ | refine cpr.wpList_copy_run rfl _ _ 25 25 rfl _ _ _ rfl rfl (hc1 _) ?_)
  refine dk.region_sets (ws w.heap.size g i n G) [46, 47, 48, 49, 50, 51, 52, 53, 54] (dk.Cl (fun b W => W = if b then W3 else W2.drew) 8) (by kernel_rfl) (by kernel_rfl) rfl (by kernel_rfl) rfl ?each ?fin
  case each =>
    refine ⟨dk.q (by decide) (.slice (some ⟨w.heap.size, 0, none⟩) (n + 1) G) (by rintro _ ⟨⟩; exact dk.sets_on _ (by simp) _ rfl) (fun b W h => by simp [execOp, go_sem, Act.eval, dk.sets_get, ws, List.lookup]), ?_⟩
    refine ⟨dk.q (by decide) (.int .i64 i) (by rintro _ ⟨⟩; exact dk.sets_on _ (by simp) _ rfl) (fun b W h => by simp [execOp, go_sem, Act.eval, dk.sets_get, ws, List.lookup]), ?_⟩
    refine ⟨dk.q (by decide) (.int .i64 1) (by rintro _ ⟨⟩; exact dk.sets_on _ (by simp) _ rfl) (fun b W h => by simp [execOp, go_sem, Act.eval, dk.sets_get, ws, List.lookup]), ?_⟩
    refine ⟨dk.q (by decide) (.int .i64 ((i : Int) + 1)) (by rintro _ ⟨⟩; exact dk.sets_on _ (by simp) _ rfl) (fun b W h => by simp [execOp, go_sem, Act.eval, dk.sets_get, ws, List.lookup, i9]), ?_⟩
    refine ⟨dk.q (by decide) (.slice (some ⟨w.heap.size, (i + 1) * 7, none⟩) (n - i) (G - (i + 1))) (by rintro _ ⟨⟩; exact dk.sets_on _ (by simp) _ rfl) (fun b W h => by simp [execOp, go_sem, Act.eval, dk.sets_get, ws, List.lookup, r1, r2, r3]), ?_⟩
    refine ⟨dk.q (by decide) (.slice (some ⟨g, 0, none⟩) n n) (by rintro _ ⟨⟩; exact dk.sets_on _ (by simp) _ rfl) (fun b W h => by simp [execOp, go_sem, Act.eval, dk.sets_get, ws, List.lookup]), ?_⟩
    refine ⟨dk.q (by decide) (.int .i64 i) (by rintro _ ⟨⟩; exact dk.sets_on _ (by simp) _ rfl) (fun b W h => by simp [execOp, go_sem, Act.eval, dk.sets_get, ws, List.lookup]), ?_⟩
    refine ⟨dk.q (by decide) (.slice (some ⟨g, i * 7, none⟩) (n - i) (n - i)) (by rintro _ ⟨⟩; exact dk.sets_on _ (by simp) _ rfl) (fun b W h => by simp [execOp, go_sem, Act.eval, dk.sets_get, ws, List.lookup, r1, r4]), ?_⟩
    refine ⟨cpr.lastv (.int .i64 ((n - i : Nat) : Int)) (by rintro _ ⟨⟩; exact dk.sets_on _ (by simp) _ rfl) (fun W h => ?_), trivial⟩
    obtain rfl : W = W2.drew := h
    refine ⟨W3, ?_, rfl⟩
    simp [execOp, resolve, invoke, builtin, Act.eval, dk.sets_get, ws, List.lookup, hc2]
    rfl
  case fin =>
    intro L W hL hC
    obtain rfl : W = W3 := by
      have h8 := hL 8 (by decide)
      unfold dk.Cl at hC
      rw [h8] at hC
      exact hC
    simp only [dk.sets, ws]
    go_wp2
    go_ret
    exact ⟨_, _, rfl, HOWN.out, HB3.out⟩
set_option maxRecDepth 100000 in
set_option maxHeartbeats 4000000 in
theorem insert_end (l : List flH.Hd) (g B : Nat) (bt bo bq : Int) (bx bk bb : ByteArray) (ba : Bool) (ga : Nat) (w : World) (hl : l.length ≤ 1048576) (hB : B ≤ w.heap.size) (ho : w.ownsRow B 55 7 (.slice (some ⟨g, 0, none⟩) l.length l.length) l.length (l.flatMap flH.c)) (ha : w.heap[ga]? = some (.cells #[.int .i64 bt, .int .i64 bo, .int .i64 bq, .string bx, .string bk, .string bb, .bool ba] 55 (0, 0))) :
    Calls Try.prog 55 #[.slice (some ⟨g, 0, none⟩) l.length l.length, .int .i64 l.length, .slice (some ⟨ga, 0, none⟩) 1 1] w fun r w' => ∃ g2 c2, r = .returned (.slice (some ⟨g2, 0, none⟩) (l.length + 1) c2) ∧ w'.ownsRow B 55 7 (.slice (some ⟨g2, 0, none⟩) (l.length + 1) c2) (l.length + 1) ((l ++ [(⟨bt, bo, ⟨bq, bx, bk, bb, ba⟩⟩ : flH.Hd)]).flatMap flH.c) ∧ w.grownBy w' (some g) := by
  obtain ⟨i1, ki, kz0, kz1, kz2⟩ := infoX
  have hfl : (l ++ [(⟨bt, bo, ⟨bq, bx, bk, bb, ba⟩⟩ : flH.Hd)]).flatMap flH.c = l.flatMap flH.c ++ [Value.int .i64 bt, Value.int .i64 bo, Value.int .i64 bq, Value.string bx, Value.string bk, Value.string bb, Value.bool ba] := by rw [List.flatMap_append]; simp [flH.c]
  rw [hfl]
  have hnw : ∀ (j : Nat) (u : Value), [Value.int .i64 bt, Value.int .i64 bo, Value.int .i64 bq, Value.string bx, Value.string bk, Value.string bb, Value.bool ba][j]? = some u → w.cell? ((⟨ga, 0, none⟩ : Addr).add j) = some u := fun j u hu => by
    rw [add_at, Nat.zero_add]
    match j, hu with
    | 0, hu => cases hu; exact bcell ha rfl
    | 1, hu => cases hu; exact bcell ha rfl
    | 2, hu => cases hu; exact bcell ha rfl
    | 3, hu => cases hu; exact bcell ha rfl
    | 4, hu => cases hu; exact bcell ha rfl
    | 5, hu => cases hu; exact bcell ha rfl
    | 6, hu => cases hu; exact bcell ha rfl
    | j + 7, hu => simp at hu
  clear hfl ha
  go_enter Try.func55, Try.ntmps55
  go_wp2_with (at_builtin; refine wpList_append_own _ rfl _ _ 25 rfl B 55 i1 (.agg #[.int .i64 0, .int .i64 0, .int .i64 0, .string ByteArray.empty, .string ByteArray.empty, .string ByteArray.empty, .bool false]) 7 80 Try.underlying25 ki kz0 kz1 kz2 rfl (by decide) _ _ _ rfl ho ⟨ga, 0, none⟩ 1 1 [Value.int .i64 bt, Value.int .i64 bo, Value.int .i64 bq, Value.string bx, Value.string bk, Value.string bb, Value.bool ba] rfl rfl hnw (by simp [Value.oneCell']) (by unfold maxLen; omega) (by omega) hB ?_)
  intro v' w' hown hgrow _
  obtain ⟨g2, c2, rfl⟩ := own_form hown
  have HO : Hid (w'.ownsRow B 55 7 (.slice (some ⟨g2, 0, none⟩) (l.length + 1) c2) (l.length + 1) (l.flatMap flH.c ++ [Value.int .i64 bt, Value.int .i64 bo, Value.int .i64 bq, Value.string bx, Value.string bk, Value.string bb, Value.bool ba])) := hown
  have HG : Hid (w.grownBy w' (some g)) := hgrow
  clear hown hgrow ho hnw
  go_wp2
  go_ret
  exact ⟨_, _, rfl, HO.out, HG.out⟩
/-- either way -/
theorem insert_held (l : List flH.Hd) (g i B : Nat) (bt bo bq : Int) (bx bk bb : ByteArray) (ba : Bool) (ga : Nat) (w : World) (hi : i ≤ l.length) (hl : l.length ≤ 1048576) (hB : B ≤ w.heap.size) (ho : w.ownsRow B 55 7 (.slice (some ⟨g, 0, none⟩) l.length l.length) l.length (l.flatMap flH.c)) (ha : w.heap[ga]? = some (.cells #[.int .i64 bt, .int .i64 bo, .int .i64 bq, .string bx, .string bk, .string bb, .bool ba] 55 (0, 0))) :
    Calls Try.prog 55 #[.slice (some ⟨g, 0, none⟩) l.length l.length, .int .i64 i, .slice (some ⟨ga, 0, none⟩) 1 1] w fun r w' => ∃ g2 c2, r = .returned (.slice (some ⟨g2, 0, none⟩) (l.length + 1) c2) ∧ w'.ownsRow B 55 7 (.slice (some ⟨g2, 0, none⟩) (l.length + 1) c2) (l.length + 1) ((l.take i ++ ⟨bt, bo, ⟨bq, bx, bk, bb, ba⟩⟩ :: l.drop i).flatMap flH.c) ∧ w.grownBy w' (some g) := by
  by_cases h : i < l.length
  · exact (insert_mid l g i B bt bo bq bx bk bb ba ga w h hl hB ho ha).mono fun r w' ⟨g2, c2, h1, h2, h3⟩ => ⟨g2, c2, h1, h2, ⟨h3.os, h3.tape, h3.output, h3.size, fun k hk _ => h3.block k hk⟩⟩
  · obtain rfl : i = l.length := by omega
    rw [List.take_length, List.drop_length]
    exact insert_end l g B bt bo bq bx bk bb ba ga w hl hB ho ha
end Go.Proofs.Ytnlcmheahihlpaa.inh

/- The program's Pop: its answer, and the two regions that draw their order: how far each is. -/
namespace Go.Proofs.Ytnlcmheahihlpaa.qoi
open Go.ChangeShapes Go.WideShapes Go.ChangeAt Go.RowKit Go.Proofs.Ytnlcmheahihlpaa.fl Go.Proofs.Ytnlcmheahihlpaa.fo Go.Proofs.Ytnlcmheahihlpaa.qit Go.Proofs.Ytnlcmheahihlpaa.qst Go.Proofs.Ytnlcmheahihlpaa.qpu Go.Proofs.Ytnlcmheahihlpaa.qpo Go.Proofs.Ytnlcmheahihlpaa.qop Go.Proofs.Ytnlcmheahihlpaa.qcl Go.Proofs.Ytnlcmheahihlpaa.qsp Go.Proofs.Ytnlcmheahihlpaa.qpi
set_option linter.unusedVariables false

/-- the answer -/
def PP (w : World) (nm : ByteArray) (nv : Int) (L : List flM.Ms) (ms : List flH.Hd) (m : flM.Ms) (f : Bool) (e : Ending) (w' : World) : Prop := ∃ g ce h cb, e = .returned (.tuple #[.agg #[.string nm, .int .i64 nv, .slice (some ⟨g, 0, none⟩) L.length ce, .slice (some ⟨h, 0, none⟩) ms.length cb], .agg #[.int .i64 m.q, .string m.x, .string m.k, .string m.b, .bool m.a], .bool f]) ∧ w.heap.size ≤ g ∧ w.heap.size ≤ h ∧ g ≠ h ∧ OwnO flM.c 5 41 w' g 0 L L.length ∧ OwnO flH.c 7 55 w' h 0 ms ms.length ∧ Below w.heap.size w w'

theorem own_owns {α : Type} {c : α → List Value} {n B g : Nat} {U : TypeId} {l : List α} {w : World} (hn : ∀ e, (c e).length = n) (ho : Own c n U w g l l.length) (hB : B ≤ g) (hl : l.length ≤ maxLen) : w.ownsRow B U n (.slice (some ⟨g, 0, none⟩) l.length l.length) l.length (l.flatMap c) := by
  obtain ⟨cur, h1, h2, h3⟩ := ho
  refine ⟨flat_len hn l, .inr ⟨g, l.length, cur, rfl, hB, h1, Nat.le_refl _, hl, h2, ?_⟩⟩
  apply List.ext_getElem?
  intro j
  by_cases hj : j < l.length * n
  · rw [List.getElem?_take_of_lt hj]
    have hj2 : j < (l.flatMap c).length := by rw [flat_len hn]; exact hj
    obtain ⟨u, hu⟩ : ∃ u, (l.flatMap c)[j]? = some u := ⟨_, List.getElem?_eq_getElem hj2⟩
    obtain ⟨i, e, r, k1, k2, k3⟩ := flat_get hn l j _ hu
    rw [hu]
    subst k3
    have := h3 i e (List.getElem?_eq_some_iff.1 k1).1 k1 r _ k2
    simpa using this
  · rw [List.getElem?_eq_none (by rw [List.length_take]; omega), List.getElem?_eq_none (by rw [flat_len hn]; omega)]
theorem perm_tail {M es : List flM.Ms} {e : flM.Ms} (h : (e :: M).Perm es) (he : es = e :: es.tail) : M.Perm es.tail := by rw [he] at h; exact List.Perm.cons_inv h
theorem asc_tail {es : List flM.Ms} (h : ∀ (i : Nat) (a c : flM.Ms), es[i]? = some a → es[i + 1]? = some c → a.q < c.q) : ∀ (i : Nat) (a c : flM.Ms), es.tail[i]? = some a → es.tail[i + 1]? = some c → a.q < c.q := fun i a c ha hc => by
  rw [List.getElem?_tail] at ha hc
  exact h (i + 1) a c ha hc
theorem box7 {W : World} {b : Nat} {x0 x1 x2 x3 x4 x5 x6 : Value} {U : TypeId} (h : W.heap[b]? = some (.cells #[x0, x1, x2, x3, x4, x5, x6] U (0, 0))) : W.cell? ⟨b, 0, none⟩ = some x0 ∧ W.cell? ⟨b, 1, none⟩ = some x1 ∧ W.cell? ⟨b, 2, none⟩ = some x2 ∧ W.cell? ⟨b, 3, none⟩ = some x3 ∧ W.cell? ⟨b, 4, none⟩ = some x4 ∧ W.cell? ⟨b, 5, none⟩ = some x5 ∧ W.cell? ⟨b, 6, none⟩ = some x6 := ⟨bcell h rfl, bcell h rfl, bcell h rfl, bcell h rfl, bcell h rfl, bcell h rfl, bcell h rfl⟩
def ws8 (hb a h n p : Nat) (H : Array Value) (v : Value) : List (Nat × Value) := [(69, .pointer (some ⟨hb, 0, none⟩)), (70, .pointer (some ⟨hb, 0, none⟩)), (71, .pointer (some ⟨hb, 0, none⟩)), (72, .pointer (some ⟨hb, 3, none⟩)), (73, .slice (some ⟨h, 0, none⟩) n n), (74, .int .i64 p), (75, .agg H), (76, .slice (some ⟨a, 0, none⟩) 1 1), (77, v), (78, .pointer (some ⟨hb, 0, none⟩)), (79, .pointer (some ⟨hb, 3, none⟩))]
/-- how far the insertion of the new one is: nothing, its place, the row, the row laid into the queue -/
def S8 (W1 U : World) (hb g cap h h3 n : Nat) (nm : ByteArray) (nx : Int) (M : List flM.Ms) (xs : List Value) (H : Array Value) (v : Value) : Nat → World → Prop
  | 0, W => W = U
  | 1, W => W = U.alloc (.cells H 55)
  | 2, W => ∃ g2 d2, v = .slice (some ⟨g2, 0, none⟩) (n + 1) d2 ∧ W.ownsRow W1.heap.size 55 7 v (n + 1) xs ∧ SG W1 hb ⟨nm, nx, some ⟨h, 0, none⟩, n, n⟩ g cap M W ∧ W.heap[h3]? = some (.cells H 55 (0, 0))
  | _, W => ∃ g2 d2, v = .slice (some ⟨g2, 0, none⟩) (n + 1) d2 ∧ W.ownsRow W1.heap.size 55 7 v (n + 1) xs ∧ SG W1 hb ⟨nm, nx, some ⟨g2, 0, none⟩, n + 1, d2⟩ g cap M W ∧ W.heap[h3]? = some (.cells H 55 (0, 0))
theorem s8_2 {W1 U W : World} {hb g cap h h3 n : Nat} {nm : ByteArray} {nx : Int} {M : List flM.Ms} {xs : List Value} {H : Array Value} {v : Value} (h8 : S8 W1 U hb g cap h h3 n nm nx M xs H v 2 W) : ∃ g2 d2, v = .slice (some ⟨g2, 0, none⟩) (n + 1) d2 ∧ W.ownsRow W1.heap.size 55 7 v (n + 1) xs ∧ SG W1 hb ⟨nm, nx, some ⟨h, 0, none⟩, n, n⟩ g cap M W ∧ W.heap[h3]? = some (.cells H 55 (0, 0)) := h8
theorem s8_3 {W1 U W : World} {hb g cap h h3 n : Nat} {nm : ByteArray} {nx : Int} {M : List flM.Ms} {xs : List Value} {H : Array Value} {v : Value} (h8 : S8 W1 U hb g cap h h3 n nm nx M xs H v 3 W) : ∃ g2 d2, v = .slice (some ⟨g2, 0, none⟩) (n + 1) d2 ∧ W.ownsRow W1.heap.size 55 7 v (n + 1) xs ∧ SG W1 hb ⟨nm, nx, some ⟨g2, 0, none⟩, n + 1, d2⟩ g cap M W ∧ W.heap[h3]? = some (.cells H 55 (0, 0)) := h8
theorem s8_mid {W1 U W : World} {hb g cap h h3 n : Nat} {nm : ByteArray} {nx : Int} {M : List flM.Ms} {xs : List Value} {H : Array Value} (g2 d2 : Nat) (h1 : W.ownsRow W1.heap.size 55 7 (.slice (some ⟨g2, 0, none⟩) (n + 1) d2) (n + 1) xs) (h2 : SG W1 hb ⟨nm, nx, some ⟨h, 0, none⟩, n, n⟩ g cap M W) (h4 : W.heap[h3]? = some (.cells H 55 (0, 0))) : S8 W1 U hb g cap h h3 n nm nx M xs H (.slice (some ⟨g2, 0, none⟩) (n + 1) d2) 2 W := ⟨g2, d2, rfl, h1, h2, h4⟩
theorem s8_end {W1 U W : World} {hb g cap h h3 n : Nat} {nm : ByteArray} {nx : Int} {M : List flM.Ms} {xs : List Value} {H : Array Value} (g2 d2 : Nat) (h1 : W.ownsRow W1.heap.size 55 7 (.slice (some ⟨g2, 0, none⟩) (n + 1) d2) (n + 1) xs) (h2 : SG W1 hb ⟨nm, nx, some ⟨g2, 0, none⟩, n + 1, d2⟩ g cap M W) (h4 : W.heap[h3]? = some (.cells H 55 (0, 0))) : S8 W1 U hb g cap h h3 n nm nx M xs H (.slice (some ⟨g2, 0, none⟩) (n + 1) d2) 3 W := ⟨g2, d2, rfl, h1, h2, h4⟩
/-- what closed answers -/
def XQ (nm : ByteArray) (nx : Int) (n k g2 d2 : Nat) (s : Nat × Nat) : Array Value := #[.string nm, .int .i64 nx, .slice (some ⟨s.1, 0, none⟩) n s.2, .slice (some ⟨g2, 0, none⟩) k d2]
/-- what stands behind it: the answer's rows, its two places, and the new one's -/
structure F9 (w : World) (AR : List flM.Ms) (AH : List flH.Hd) (g2 h3 : Nat) (xq xm H : Array Value) (s : Nat × Nat) (W : World) : Prop where
  oe : OwnO flM.c 5 41 W s.1 0 AR AR.length
  oh : OwnO flH.c 7 55 W g2 0 AH AH.length
  bel : Below w.heap.size w W
  res : W.heap[w.heap.size + 1]? = some (.cells xq 27 (0, 0))
  rem : W.heap[w.heap.size + 2]? = some (.cells xm 41 (0, 0))
  mor : W.heap[h3]? = some (.cells H 55 (0, 0))
  b1 : w.heap.size + 3 ≤ s.1
  b2 : w.heap.size + 3 ≤ g2
  ne : s.1 ≠ g2
theorem F9.on {w : World} {AR : List flM.Ms} {AH : List flH.Hd} {g2 h3 : Nat} {xq xm H : Array Value} {s : Nat × Nat} {W W' : World} (f : F9 w AR AH g2 h3 xq xm H s W) (hb : Below W.heap.size W W') : F9 w AR AH g2 h3 xq xm H s W' :=
  ⟨f.oe.below hb f.oe.lt, f.oh.below hb f.oh.lt, f.bel.trans (hb.mono f.bel.size), bstay f.res hb (Array.getElem?_eq_some_iff.1 f.res).1, bstay f.rem hb (Array.getElem?_eq_some_iff.1 f.rem).1, bstay f.mor hb (Array.getElem?_eq_some_iff.1 f.mor).1, f.b1, f.b2, f.ne⟩
theorem F9.ne3 {w : World} {AR : List flM.Ms} {AH : List flH.Hd} {g2 h3 : Nat} {xq xm H : Array Value} {s : Nat × Nat} {W : World} (f : F9 w AR AH g2 h3 xq xm H s W) : h3 ≠ w.heap.size + 1 ∧ h3 ≠ w.heap.size + 2 := by
  constructor
  · intro e
    have := f.mor
    rw [e, f.res] at this
    simp at this
  · intro e
    have := f.mor
    rw [e, f.rem] at this
    simp at this
theorem F9.put1 {w : World} {AR : List flM.Ms} {AH : List flH.Hd} {g2 h3 : Nat} {xq xm H : Array Value} {s : Nat × Nat} {W : World} (f : F9 w AR AH g2 h3 xq xm H s W) (j : Nat) (v : Value) : F9 w AR AH g2 h3 (xq.set! j v) xm H s (W.setCell ⟨w.heap.size + 1, j, none⟩ v) := by
  have b1 := f.b1
  have b2 := f.b2
  exact ⟨f.oe.kept (Below.heap_setCell _ _ _ _ (by show s.1 ≠ w.heap.size + 1; omega)), f.oh.kept (Below.heap_setCell _ _ _ _ (by show g2 ≠ w.heap.size + 1; omega)), f.bel.setCell (by show w.heap.size ≤ w.heap.size + 1; omega) _, bset f.res j v, boff f.rem _ _ _ (by omega), boff f.mor _ _ _ f.ne3.1, b1, b2, f.ne⟩
theorem F9.put2 {w : World} {AR : List flM.Ms} {AH : List flH.Hd} {g2 h3 : Nat} {xq xm H : Array Value} {s : Nat × Nat} {W : World} (f : F9 w AR AH g2 h3 xq xm H s W) (j : Nat) (v : Value) : F9 w AR AH g2 h3 xq (xm.set! j v) H s (W.setCell ⟨w.heap.size + 2, j, none⟩ v) := by
  have b1 := f.b1
  have b2 := f.b2
  exact ⟨f.oe.kept (Below.heap_setCell _ _ _ _ (by show s.1 ≠ w.heap.size + 2; omega)), f.oh.kept (Below.heap_setCell _ _ _ _ (by show g2 ≠ w.heap.size + 2; omega)), f.bel.setCell (by show w.heap.size ≤ w.heap.size + 2; omega) _, boff f.res _ _ _ (by omega), bset f.rem j v, boff f.mor _ _ _ f.ne3.2, b1, b2, f.ne⟩
theorem F9.put4 {w : World} {AR : List flM.Ms} {AH : List flH.Hd} {g2 h3 : Nat} {xm H : Array Value} {s : Nat × Nat} {W : World} {a0 a1 a2 a3 x0 x1 x2 x3 : Value} (f : F9 w AR AH g2 h3 #[a0, a1, a2, a3] xm H s W) : F9 w AR AH g2 h3 #[x0, x1, x2, x3] xm H s ((((W.setCell ⟨w.heap.size + 1, 0, none⟩ x0).setCell ⟨w.heap.size + 1, 1, none⟩ x1).setCell ⟨w.heap.size + 1, 2, none⟩ x2).setCell ⟨w.heap.size + 1, 3, none⟩ x3) := (((f.put1 0 x0).put1 1 x1).put1 2 x2).put1 3 x3
theorem F9.put5 {w : World} {AR : List flM.Ms} {AH : List flH.Hd} {g2 h3 : Nat} {xq H : Array Value} {s : Nat × Nat} {W : World} {a0 a1 a2 a3 a4 x0 x1 x2 x3 x4 : Value} (f : F9 w AR AH g2 h3 xq #[a0, a1, a2, a3, a4] H s W) : F9 w AR AH g2 h3 xq #[x0, x1, x2, x3, x4] H s (((((W.setCell ⟨w.heap.size + 2, 0, none⟩ x0).setCell ⟨w.heap.size + 2, 1, none⟩ x1).setCell ⟨w.heap.size + 2, 2, none⟩ x2).setCell ⟨w.heap.size + 2, 3, none⟩ x3).setCell ⟨w.heap.size + 2, 4, none⟩ x4) := ((((f.put2 0 x0).put2 1 x1).put2 2 x2).put2 3 x3).put2 4 x4
theorem box4 {W : World} {b : Nat} {x0 x1 x2 x3 : Value} {U : TypeId} (h : W.heap[b]? = some (.cells #[x0, x1, x2, x3] U (0, 0))) : W.cell? ⟨b, 0, none⟩ = some x0 ∧ W.cell? ⟨b, 1, none⟩ = some x1 ∧ W.cell? ⟨b, 2, none⟩ = some x2 ∧ W.cell? ⟨b, 3, none⟩ = some x3 := ⟨bcell h rfl, bcell h rfl, bcell h rfl, bcell h rfl⟩
theorem box5 {W : World} {b : Nat} {x0 x1 x2 x3 x4 : Value} {U : TypeId} (h : W.heap[b]? = some (.cells #[x0, x1, x2, x3, x4] U (0, 0))) : W.cell? ⟨b, 0, none⟩ = some x0 ∧ W.cell? ⟨b, 1, none⟩ = some x1 ∧ W.cell? ⟨b, 2, none⟩ = some x2 ∧ W.cell? ⟨b, 3, none⟩ = some x3 ∧ W.cell? ⟨b, 4, none⟩ = some x4 := ⟨bcell h rfl, bcell h rfl, bcell h rfl, bcell h rfl, bcell h rfl⟩
def ws9 (hb h3 g2 d2 : Nat) (nm : ByteArray) (nx : Int) (n k : Nat) (M5 : Array Value) (s : Nat × Nat) : List (Nat × Value) := [(80, .pointer (some ⟨hb, 0, none⟩)), (81, .agg (XQ nm nx n k g2 d2 s)), (82, .pointer (some ⟨h3, 2, none⟩)), (83, .agg M5), (84, .agg M5), (8, .bool true)]
/-- how far the answer is: nothing, the queue closed, the message copied, both laid -/
def S9 (w U : World) (AR : List flM.Ms) (AH : List flH.Hd) (g2 d2 h3 : Nat) (nm : ByteArray) (nx : Int) (n : Nat) (H M5 : Array Value) (s : Nat × Nat) : Nat → World → Prop
  | 0, W => W = U
  | 1, W => F9 w AR AH g2 h3 #[.string ⟨#[]⟩, .int .i64 0, .slice none 0 0, .slice none 0 0] #[.int .i64 0, .string ⟨#[]⟩, .string ⟨#[]⟩, .string ⟨#[]⟩, .bool false] H s W
  | 2, W => F9 w AR AH g2 h3 #[.string ⟨#[]⟩, .int .i64 0, .slice none 0 0, .slice none 0 0] #[.int .i64 0, .string ⟨#[]⟩, .string ⟨#[]⟩, .string ⟨#[]⟩, .bool false] H s W
  | 3, W => F9 w AR AH g2 h3 (XQ nm nx AR.length n g2 d2 s) #[.int .i64 0, .string ⟨#[]⟩, .string ⟨#[]⟩, .string ⟨#[]⟩, .bool false] H s W
  | _, W => F9 w AR AH g2 h3 (XQ nm nx AR.length n g2 d2 s) M5 H s W
section
variable {w U W : World} {AR : List flM.Ms} {AH : List flH.Hd} {g2 d2 h3 n : Nat} {nm : ByteArray} {nx : Int} {H M5 : Array Value} {s : Nat × Nat}
theorem s9_2 (h : S9 w U AR AH g2 d2 h3 nm nx n H M5 s 2 W) : F9 w AR AH g2 h3 #[.string ⟨#[]⟩, .int .i64 0, .slice none 0 0, .slice none 0 0] #[.int .i64 0, .string ⟨#[]⟩, .string ⟨#[]⟩, .string ⟨#[]⟩, .bool false] H s W := h
theorem s9_3 (h : S9 w U AR AH g2 d2 h3 nm nx n H M5 s 3 W) : F9 w AR AH g2 h3 (XQ nm nx AR.length n g2 d2 s) #[.int .i64 0, .string ⟨#[]⟩, .string ⟨#[]⟩, .string ⟨#[]⟩, .bool false] H s W := h
theorem s9_4 (h : S9 w U AR AH g2 d2 h3 nm nx n H M5 s 4 W) : F9 w AR AH g2 h3 (XQ nm nx AR.length n g2 d2 s) M5 H s W := h
theorem s9_more {k : Nat} (hk : k ≤ 1) (hU : U.heap[h3]? = some (.cells H 55 (0, 0))) (h : S9 w U AR AH g2 d2 h3 nm nx n H M5 s k W) : W.heap[h3]? = some (.cells H 55 (0, 0)) := by
  match k, hk, h with
  | 0, _, h => rw [show W = U from h]; exact hU
  | 1, _, h => exact F9.mor (show F9 w AR AH g2 h3 #[.string ⟨#[]⟩, .int .i64 0, .slice none 0 0, .slice none 0 0] #[.int .i64 0, .string ⟨#[]⟩, .string ⟨#[]⟩, .string ⟨#[]⟩, .bool false] H s W from h)
end
theorem sg_grown {W0 w w' : World} {hb g cap h : Nat} {Q : Qx} {L : List flM.Ms} (hs : SG W0 hb Q g cap L w) (hg : w.grownBy w' (some h)) (h1 : h ≠ g) (h2 : h ≠ hb) (h3 : W0.heap.size ≤ h) : SG W0 hb Q g cap L w' := by
  have hgl : g < w.heap.size := by obtain ⟨cur, hc, _⟩ := hs.row; exact (Array.getElem?_eq_some_iff.1 hc).1
  exact ⟨hs.bel.grown hg hs.bel.size (fun k hk => by cases hk; exact h3), hs.hbB, hs.gB, hs.ne, grown_at hg hs.box (by simpa using h2), hs.row.below (hg.block g hgl (fun e => by have := Option.some.inj e; omega)), hs.fits⟩
end Go.Proofs.Ytnlcmheahihlpaa.qoi

/- The program's Pop where it cannot be: a copy of the queue. -/
namespace Go.Proofs.Ytnlcmheahihlpaa.qoi
open Go.ChangeShapes Go.WideShapes Go.ChangeAt Go.RowKit Go.Proofs.Ytnlcmheahihlpaa.fl Go.Proofs.Ytnlcmheahihlpaa.fo Go.Proofs.Ytnlcmheahihlpaa.qit Go.Proofs.Ytnlcmheahihlpaa.qst Go.Proofs.Ytnlcmheahihlpaa.qpu Go.Proofs.Ytnlcmheahihlpaa.qpo Go.Proofs.Ytnlcmheahihlpaa.qop Go.Proofs.Ytnlcmheahihlpaa.qcl Go.Proofs.Ytnlcmheahihlpaa.qsp Go.Proofs.Ytnlcmheahihlpaa.qpi
set_option linter.unusedVariables false

set_option maxRecDepth 100000 in
set_option maxHeartbeats 4000000 in
theorem impl_pop_no (nm : ByteArray) (nx : Int) (es : List flM.Ms) (ms : List flH.Hd) (a0 b0 : Option Addr) (ec bc : Nat) (o t : Int) (w : World) (F : Fit nm es ms) (hgd : qpp.good nm nx es ms o t = false) (hE : Row flM.c 5 w w.heap.size a0 es) (hB : Row flH.c 7 w w.heap.size b0 ms) :
    Calls Try.prog 17 #[.agg #[.string nm, .int .i64 nx, .slice a0 es.length ec, .slice b0 ms.length bc], .int .i64 o, .int .i64 t] w fun e w' => PP w nm nx (qpp.ansR nm nx es ms o t) (qpp.ansH nm nx es ms o t) (qpp.ansM nm nx es ms o t) (qpp.good nm nx es ms o t) e w' := by
  have hWb : Below w.heap.size w (((w.alloc (.cells #[.string nm, .int .i64 nx, .slice a0 es.length ec, .slice b0 ms.length bc] 27)).alloc (.cells #[.string ⟨#[]⟩, .int .i64 0, .slice none 0 0, .slice none 0 0] 27)).alloc (.cells #[.int .i64 0, .string ⟨#[]⟩, .string ⟨#[]⟩, .string ⟨#[]⟩, .bool false] 41)) := (((Below.refl _ _).alloc (Nat.le_refl _) _).alloc (by simp) _).alloc (by simp; omega) _
  have hA := bold (bold (bnew w #[.string nm, .int .i64 nx, .slice a0 es.length ec, .slice b0 ms.length bc] 27) (.cells #[.string ⟨#[]⟩, .int .i64 0, .slice none 0 0, .slice none 0 0] 27)) (.cells #[.int .i64 0, .string ⟨#[]⟩, .string ⟨#[]⟩, .string ⟨#[]⟩, .bool false] 41)
  have hR := bold (bnew (w.alloc (.cells #[.string nm, .int .i64 nx, .slice a0 es.length ec, .slice b0 ms.length bc] 27)) #[.string ⟨#[]⟩, .int .i64 0, .slice none 0 0, .slice none 0 0] 27) (.cells #[.int .i64 0, .string ⟨#[]⟩, .string ⟨#[]⟩, .string ⟨#[]⟩, .bool false] 41)
  have hM := bnew ((w.alloc (.cells #[.string nm, .int .i64 nx, .slice a0 es.length ec, .slice b0 ms.length bc] 27)).alloc (.cells #[.string ⟨#[]⟩, .int .i64 0, .slice none 0 0, .slice none 0 0] 27)) #[.int .i64 0, .string ⟨#[]⟩, .string ⟨#[]⟩, .string ⟨#[]⟩, .bool false] 41
  have hsz2 : ((w.alloc (.cells #[.string nm, .int .i64 nx, .slice a0 es.length ec, .slice b0 ms.length bc] 27)).alloc (.cells #[.string ⟨#[]⟩, .int .i64 0, .slice none 0 0, .slice none 0 0] 27)).heap.size = w.heap.size + 2 := by simp
  rw [World.size_alloc] at hR
  rw [hsz2] at hM
  obtain ⟨W, hW⟩ : ∃ W, ((w.alloc (.cells #[.string nm, .int .i64 nx, .slice a0 es.length ec, .slice b0 ms.length bc] 27)).alloc (.cells #[.string ⟨#[]⟩, .int .i64 0, .slice none 0 0, .slice none 0 0] 27)).alloc (.cells #[.int .i64 0, .string ⟨#[]⟩, .string ⟨#[]⟩, .string ⟨#[]⟩, .bool false] 41) = W := ⟨_, rfl⟩
  have hWs : W.heap.size = w.heap.size + 3 := by rw [← hW]; simp
  rw [hW] at hWb hA hR hM
  have HE : Hid (Row flM.c 5 W W.heap.size a0 es) := hE.inn hWb
  have HRS : Hid (W.heap[w.heap.size + 1]? = some (.cells #[.string ⟨#[]⟩, .int .i64 0, .slice none 0 0, .slice none 0 0] 27 (0, 0)) ∧ W.heap[w.heap.size + 2]? = some (.cells #[.int .i64 0, .string ⟨#[]⟩, .string ⟨#[]⟩, .string ⟨#[]⟩, .bool false] 41 (0, 0))) := ⟨hR, hM⟩
  have HB : Hid (Row flH.c 7 W W.heap.size b0 ms) := hB.inn hWb
  have HF : Hid (Fit nm es ms) := F
  have BX : Hid (∀ V, Below W.heap.size W V → (V.cell? ⟨w.heap.size, 0, none⟩ = some (.string nm) ∧ V.cell? ⟨w.heap.size, 1, none⟩ = some (.int .i64 nx) ∧ V.cell? ⟨w.heap.size, 2, none⟩ = some (.slice a0 es.length ec) ∧ V.cell? ⟨w.heap.size, 3, none⟩ = some (.slice b0 ms.length bc)) ∧ (V.cell? ⟨w.heap.size + 1, 0, none⟩ = some (.string ⟨#[]⟩) ∧ V.cell? ⟨w.heap.size + 1, 1, none⟩ = some (.int .i64 0) ∧ V.cell? ⟨w.heap.size + 1, 2, none⟩ = some (.slice none 0 0) ∧ V.cell? ⟨w.heap.size + 1, 3, none⟩ = some (.slice none 0 0)) ∧ (V.cell? ⟨w.heap.size + 2, 0, none⟩ = some (.int .i64 0) ∧ V.cell? ⟨w.heap.size + 2, 1, none⟩ = some (.string ⟨#[]⟩) ∧ V.cell? ⟨w.heap.size + 2, 2, none⟩ = some (.string ⟨#[]⟩) ∧ V.cell? ⟨w.heap.size + 2, 3, none⟩ = some (.string ⟨#[]⟩) ∧ V.cell? ⟨w.heap.size + 2, 4, none⟩ = some (.bool false)) ∧ (V.frozen? ⟨w.heap.size + 1, 0, none⟩ = false ∧ V.frozen? ⟨w.heap.size + 1, 1, none⟩ = false ∧ V.frozen? ⟨w.heap.size + 1, 2, none⟩ = false ∧ V.frozen? ⟨w.heap.size + 1, 3, none⟩ = false) ∧ V.frozen? ⟨w.heap.size + 2, 0, none⟩ = false ∧ V.frozen? ⟨w.heap.size + 2, 1, none⟩ = false ∧ V.frozen? ⟨w.heap.size + 2, 2, none⟩ = false ∧ V.frozen? ⟨w.heap.size + 2, 3, none⟩ = false ∧ V.frozen? ⟨w.heap.size + 2, 4, none⟩ = false) := fun V hV => by
    have a := bstay hA hV (by omega)
    have r := bstay hR hV (by omega)
    have m := bstay hM hV (by omega)
    exact ⟨⟨bcell a rfl, bcell a rfl, bcell a rfl, bcell a rfl⟩, ⟨bcell r rfl, bcell r rfl, bcell r rfl, bcell r rfl⟩, ⟨bcell m rfl, bcell m rfl, bcell m rfl, bcell m rfl, bcell m rfl⟩, ⟨bfree r 0, bfree r 1, bfree r 2, bfree r 3⟩, bfree m 0, bfree m 1, bfree m 2, bfree m 3, bfree m 4⟩
  have hok := impl_okb nm nx es ms _ _ ec bc W F HE.out HB.out
  have CP : Hid (∀ V, Below W.heap.size W V → Calls Try.prog 21 #[.agg #[.string nm, .int .i64 nx, .slice a0 es.length ec, .slice b0 ms.length bc]] V fun r w' => ∃ g h, r = .returned (.agg #[.string nm, .int .i64 nx, .slice (some ⟨g, 0, none⟩) es.length es.length, .slice (some ⟨h, 0, none⟩) ms.length ms.length]) ∧ V.heap.size ≤ g ∧ V.heap.size ≤ h ∧ g ≠ h ∧ Own flM.c 5 41 w' g es es.length ∧ Own flH.c 7 55 w' h ms ms.length ∧ Below V.heap.size V w') := fun V hV => cqu.copy_queue nm nx es ms a0 b0 ec bc V F.ns F.el F.ml F.eb F.mb (HE.out.inn hV) (HB.out.inn hV)
  have HAR : Hid (qpp.ansR nm nx es ms o t = if qpp.good nm nx es ms o t = true then es.tail else es) := rfl
  have HAH : Hid (qpp.ansH nm nx es ms o t = if qpp.good nm nx es ms o t = true then ms.take (qpp.atO o ms ms.length) ++ ⟨t, o, qpp.headM es⟩ :: ms.drop (qpp.atO o ms ms.length) else ms) := rfl
  have HAM : Hid (qpp.ansM nm nx es ms o t = if qpp.good nm nx es ms o t = true then qpp.headM es else qpp.headM []) := rfl
  have HGD : Hid (qpp.good nm nx es ms o t = (okB nm nx es ms && qpp.hand o t && !es.isEmpty && !ms.any (qpp.late o t))) := rfl
  obtain ⟨AR, hAR⟩ : ∃ y, qpp.ansR nm nx es ms o t = y := ⟨_, rfl⟩
  obtain ⟨AH, hAH⟩ : ∃ y, qpp.ansH nm nx es ms o t = y := ⟨_, rfl⟩
  obtain ⟨AM, hAM⟩ : ∃ y, qpp.ansM nm nx es ms o t = y := ⟨_, rfl⟩
  obtain ⟨GD, hGD⟩ : ∃ y, qpp.good nm nx es ms o t = y := ⟨_, rfl⟩
  rw [hAR, hGD] at HAR
  rw [hAH, hGD] at HAH
  rw [hAM, hGD] at HAM
  rw [hGD] at HGD
  have HGD : Hid ((okB nm nx es ms && qpp.hand o t && !es.isEmpty && !ms.any (qpp.late o t)) = GD) := HGD.out.symm
  have HGT : Hid (GD = false) := hGD.symm.trans hgd
  simp only [hAR, hAH, hAM, hGD]
  obtain ⟨⟨x0, x1, x2, x3⟩, _⟩ := BX.out W (Below.refl _ _)
  clear hgd hE hB hA hR hM F hAR hAH hAM hGD
  go_enter Try.func17, Try.ntmps17
  go_wp2_with (go_at_call 11; fail)
  clear hW x0 x1 x2 x3
  refine hok.mono ?_
  rintro e w1 ⟨rfl, hb1⟩
  obtain ⟨ob, hob⟩ : ∃ ob, okB nm nx es ms = ob := ⟨_, rfl⟩
  rw [hob] at HGD ⊢
  clear hok
  cases ob with
  | false =>
    obtain rfl : es = AR := by have := HAR.out; rw [HGT.out] at this; exact this.symm
    obtain rfl : ms = AH := by have := HAH.out; rw [HGT.out] at this; exact this.symm
    obtain rfl : qpp.headM [] = AM := by have := HAM.out; rw [HGT.out] at this; exact this.symm
    obtain rfl : GD = false := HGT.out
    have hcq := CP.out w1 hb1
    clear HAR HAH HAM HGD HGT
    obtain ⟨⟨x0, x1, x2, x3⟩, _⟩ := BX.out w1 hb1
    go_wp2_with (go_at_call 21; fail)
    clear x0 x1 x2 x3
    refine hcq.mono ?_
    rintro e wz ⟨g, h, rfl, hg, hh, hgh, oe, om, hbz⟩
    have hBz : Below W.heap.size W wz := hb1.trans (hbz.mono hb1.size)
    obtain ⟨_, ⟨z0, z1, z2, z3⟩, ⟨y0, y1, y2, y3, y4⟩, ⟨f0, f1, f2, f3⟩, e0, e1, e2, e3, e4⟩ := BX.out wz hBz
    have hsx := hb1.size
    have HFN : Hid (OwnO flM.c 5 41 wz g 0 es es.length ∧ OwnO flH.c 7 55 wz h 0 ms ms.length ∧ Below w.heap.size w wz) := ⟨of_own oe, of_own om, hWb.trans (hBz.mono hWb.size)⟩
    clear hcq oe om hbz hBz
    go_wp2
    refine bodyPost_ret (v := .tuple #[.agg #[.string nm, .int .i64 nx, .slice (some ⟨g, 0, none⟩) es.length es.length, .slice (some ⟨h, 0, none⟩) ms.length ms.length], .agg #[.int .i64 0, .string ⟨#[]⟩, .string ⟨#[]⟩, .string ⟨#[]⟩, .bool false], .bool false]) (by simp [results, Try.results17, go_sem, z0, z1, z2, z3, y0, y1, y2, y3, y4]) rfl ⟨g, _, h, _, rfl, by omega, by omega, hgh, ?_, ?_, ?_⟩
    · exact HFN.out.1.kept (s9.heap (by omega) (by omega))
    · exact HFN.out.2.1.kept (s9.heap (by omega) (by omega))
    · exact s9.bel HFN.out.2.2 (by omega) (by omega)
  | true =>
    have hhd := qhd.impl_hand o t w1
    obtain ⟨hn, hhn⟩ : ∃ hn, qpp.hand o t = hn := ⟨_, rfl⟩
    rw [hhn] at HGD hhd
    go_wp2_with (go_at_call 36; fail)
    refine hhd.mono ?_
    rintro e wh ⟨rfl, hwh⟩
    obtain rfl := hwh.symm
    clear hhd
    cases hn with
    | false =>
      obtain rfl : es = AR := by have := HAR.out; rw [HGT.out] at this; exact this.symm
      obtain rfl : ms = AH := by have := HAH.out; rw [HGT.out] at this; exact this.symm
      obtain rfl : qpp.headM [] = AM := by have := HAM.out; rw [HGT.out] at this; exact this.symm
      obtain rfl : GD = false := HGT.out
      have hcq := CP.out w1 hb1
      clear HAR HAH HAM HGD HGT
      obtain ⟨⟨x0, x1, x2, x3⟩, _⟩ := BX.out w1 hb1
      go_wp2_with (go_at_call 21; fail)
      clear x0 x1 x2 x3
      refine hcq.mono ?_
      rintro e wz ⟨g, h, rfl, hg, hh, hgh, oe, om, hbz⟩
      have hBz : Below W.heap.size W wz := hb1.trans (hbz.mono hb1.size)
      obtain ⟨_, ⟨z0, z1, z2, z3⟩, ⟨y0, y1, y2, y3, y4⟩, ⟨f0, f1, f2, f3⟩, e0, e1, e2, e3, e4⟩ := BX.out wz hBz
      have hsx := hb1.size
      have HFN : Hid (OwnO flM.c 5 41 wz g 0 es es.length ∧ OwnO flH.c 7 55 wz h 0 ms ms.length ∧ Below w.heap.size w wz) := ⟨of_own oe, of_own om, hWb.trans (hBz.mono hWb.size)⟩
      clear hcq oe om hbz hBz
      go_wp2
      refine bodyPost_ret (v := .tuple #[.agg #[.string nm, .int .i64 nx, .slice (some ⟨g, 0, none⟩) es.length es.length, .slice (some ⟨h, 0, none⟩) ms.length ms.length], .agg #[.int .i64 0, .string ⟨#[]⟩, .string ⟨#[]⟩, .string ⟨#[]⟩, .bool false], .bool false]) (by simp [results, Try.results17, go_sem, z0, z1, z2, z3, y0, y1, y2, y3, y4]) rfl ⟨g, _, h, _, rfl, by omega, by omega, hgh, ?_, ?_, ?_⟩
      · exact HFN.out.1.kept (s9.heap (by omega) (by omega))
      · exact HFN.out.2.1.kept (s9.heap (by omega) (by omega))
      · exact s9.bel HFN.out.2.2 (by omega) (by omega)
    | true =>
      obtain ⟨⟨x0, x1, x2, x3⟩, _⟩ := BX.out w1 hb1
      by_cases hes : es = []
      · have hl0 : ((es.length : Int) == 0) = true := by simp [hes]
        have hie : es.isEmpty = true := by simp [hes]
        clear hes
        obtain rfl : es = AR := by have := HAR.out; rw [HGT.out] at this; exact this.symm
        obtain rfl : ms = AH := by have := HAH.out; rw [HGT.out] at this; exact this.symm
        obtain rfl : qpp.headM [] = AM := by have := HAM.out; rw [HGT.out] at this; exact this.symm
        obtain rfl : GD = false := HGT.out
        have hcq := CP.out w1 hb1
        clear HAR HAH HAM HGD HGT
        obtain ⟨⟨x0, x1, x2, x3⟩, _⟩ := BX.out w1 hb1
        go_wp2_with (go_at_call 21; fail)
        clear x0 x1 x2 x3
        refine hcq.mono ?_
        rintro e wz ⟨g, h, rfl, hg, hh, hgh, oe, om, hbz⟩
        have hBz : Below W.heap.size W wz := hb1.trans (hbz.mono hb1.size)
        obtain ⟨_, ⟨z0, z1, z2, z3⟩, ⟨y0, y1, y2, y3, y4⟩, ⟨f0, f1, f2, f3⟩, e0, e1, e2, e3, e4⟩ := BX.out wz hBz
        have hsx := hb1.size
        have HFN : Hid (OwnO flM.c 5 41 wz g 0 es es.length ∧ OwnO flH.c 7 55 wz h 0 ms ms.length ∧ Below w.heap.size w wz) := ⟨of_own oe, of_own om, hWb.trans (hBz.mono hWb.size)⟩
        clear hcq oe om hbz hBz
        go_wp2
        refine bodyPost_ret (v := .tuple #[.agg #[.string nm, .int .i64 nx, .slice (some ⟨g, 0, none⟩) es.length es.length, .slice (some ⟨h, 0, none⟩) ms.length ms.length], .agg #[.int .i64 0, .string ⟨#[]⟩, .string ⟨#[]⟩, .string ⟨#[]⟩, .bool false], .bool false]) (by simp [results, Try.results17, go_sem, z0, z1, z2, z3, y0, y1, y2, y3, y4]) rfl ⟨g, _, h, _, rfl, by omega, by omega, hgh, ?_, ?_, ?_⟩
        · exact HFN.out.1.kept (s9.heap (by omega) (by omega))
        · exact HFN.out.2.1.kept (s9.heap (by omega) (by omega))
        · exact s9.bel HFN.out.2.2 (by omega) (by omega)
      · have hl0 : ((es.length : Int) == 0) = false := by simp [hes]
        have hie : es.isEmpty = false := by simp [hes]
        obtain ⟨⟨q, x, y, z, ag⟩, h0, hr0, hrt⟩ : ∃ r0, es[0]? = some r0 ∧ qpp.headM es = r0 ∧ es = r0 :: es.tail := by
          cases es with
          | nil => exact absurd rfl hes
          | cons r l => exact ⟨r, rfl, rfl, rfl⟩
        have HH0 : Hid (es[0]? = some ⟨q, x, y, z, ag⟩ ∧ qpp.headM es = ⟨q, x, y, z, ag⟩ ∧ es = ⟨q, x, y, z, ag⟩ :: es.tail) := ⟨h0, hr0, hrt⟩
        clear hes h0 hr0 hrt
        have HOK : Hid (qk.OkQ nm nx es ms) := okB_true.1 hob
        have hln := HOK.out.ln
        have hop := open_of nm nx es ms a0 b0 ec bc w1 HF.out.ns HF.out.el HF.out.ml HF.out.eb HF.out.mb (HE.out.inn hb1) (HB.out.inn hb1)
        go_wp2_with (go_at_call 22; fail)
        refine hop.mono ?_
        rintro e w2 ⟨hb, g, h, rfl, hsg, om, hh, hhb⟩
        have hb2 := hsg.bel
        have hB2 : Below W.heap.size W w2 := hb1.trans (hb2.mono hb1.size)
        have HOM : Hid (Own flH.c 7 55 w2 h ms ms.length) := om
        have hhB : w1.heap.size ≤ hb := hsg.hbB
        have hgB : w1.heap.size ≤ g := hsg.gB
        have hbl2 : hb < w2.heap.size := (Array.getElem?_eq_some_iff.1 hsg.box).1
        have hhl2 := om.lt
        have hhw1 : w1.heap.size ≤ h := hh
        have hgh : h ≠ g := by
          obtain ⟨cur, hc1, _⟩ := om
          obtain ⟨cur', hc2, _⟩ := hsg.row
          rintro rfl
          rw [hc1] at hc2
          simp at hc2
        have hfr := first_run w1 ⟨nm, nx, some ⟨h, 0, none⟩, ms.length, ms.length⟩ hb g es.length es ⟨q, x, y, z, ag⟩ w2 hsg HH0.out.1 (by omega) (sorted_heap HOK.out.ru)
        clear hop x0 x1 x2 x3 hsg om hl0
        go_wp2_with (go_at_call 53; fail)
        refine hfr.mono ?_
        rintro e w3 ⟨rfl, M, hMp, hMh, hsg3, hkq3⟩
        have om3 : Own flH.c 7 55 w3 h ms ms.length := HOM.out.kept (hkq3.block h hhl2 hgh hhb)
        have hs23 := hkq3.size
        have hal : Below w3.heap.size w3 (w3.alloc (.cells #[.int .i64 t, .int .i64 o, .int .i64 q, .string x, .string y, .string z, .bool ag] 55)) := (Below.refl _ _).alloc (Nat.le_refl _) _
        have hN := bnew w3 #[.int .i64 t, .int .i64 o, .int .i64 q, .string x, .string y, .string z, .bool ag] 55
        have omV := om3.below hal om3.lt
        have sgV := hsg3.on hal
        obtain ⟨V, hV⟩ : ∃ V, w3.alloc (.cells #[.int .i64 t, .int .i64 o, .int .i64 q, .string x, .string y, .string z, .bool ag] 55) = V := ⟨_, rfl⟩
        have hVs : V.heap.size = w3.heap.size + 1 := by rw [← hV]; simp
        rw [hV] at hal hN omV sgV
        have HN : Hid (V.heap[w3.heap.size]? = some (.cells #[.int .i64 t, .int .i64 o, .int .i64 q, .string x, .string y, .string z, .bool ag] 55 (0, 0))) := hN
        have HOMV : Hid (Own flH.c 7 55 V h ms ms.length) := omV
        have HSGV : Hid (SG w1 hb ⟨nm, nx, some ⟨h, 0, none⟩, ms.length, ms.length⟩ g es.length M V) := sgV
        have HMP : Hid ((⟨q, x, y, z, ag⟩ :: M).Perm es) := hMp
        have HMH : Hid (hp.Heap less M M.length) := hMh
        have hse := sch.search_held ms h ms.length t o q x y z ag V.drew HF.out.ml ((sch.rh_of omV.lt omV.row).below ((Below.refl _ _).drew)) (qpp.mon_ok HOK.out _)
        have v3 : V.cell? ⟨hb, 3, none⟩ = some (.slice (some ⟨h, 0, none⟩) ms.length ms.length) := bcell sgV.box rfl
        have m0 : V.cell? ⟨w3.heap.size, 0, none⟩ = some (.int .i64 t) := bcell hN rfl
        have m1 : V.cell? ⟨w3.heap.size, 1, none⟩ = some (.int .i64 o) := bcell hN rfl
        have m2 : V.cell? ⟨w3.heap.size, 2, none⟩ = some (.int .i64 q) := bcell hN rfl
        have m3 : V.cell? ⟨w3.heap.size, 3, none⟩ = some (.string x) := bcell hN rfl
        have m4 : V.cell? ⟨w3.heap.size, 4, none⟩ = some (.string y) := bcell hN rfl
        have m5 : V.cell? ⟨w3.heap.size, 5, none⟩ = some (.string z) := bcell hN rfl
        have m6 : V.cell? ⟨w3.heap.size, 6, none⟩ = some (.bool ag) := bcell hN rfl
        have hb13 : Below w1.heap.size w1 V := sgV.bel
        clear hfr hMp hMh hsg3 hkq3 om3 hN omV sgV HOM
        go_wp2
        clear hV
        go_region_with (go_at_call 54; refine hse.mono ?_; rintro e w4 ⟨⟨p, bf, rfl, hpos, hbf⟩, hb4⟩)
        all_goals
          replace hb4 : Below V.heap.size V w4 := (Below.drew (Below.refl _ V)).trans hb4
          clear hbf
          have HPS : Hid (sch.PosH ms ⟨t, o, ⟨q, x, y, z, ag⟩⟩ p) := hpos
          have hple := hpos.le
          have hsg4 := HSGV.out.on hb4
          have om4 := HOMV.out.below hb4 HOMV.out.lt
          have hN4 := bstay HN.out hb4 (by omega)
          have hB4 : Below W.heap.size W w4 := (hb1.trans (hb13.mono hb1.size)).trans (hb4.mono (by have := hb13.size; have := hb1.size; omega))
          have u3 : w4.cell? ⟨hb, 3, none⟩ = some (.slice (some ⟨h, 0, none⟩) ms.length ms.length) := bcell hsg4.box rfl
          have HS4 : Hid (SG w1 hb ⟨nm, nx, some ⟨h, 0, none⟩, ms.length, ms.length⟩ g es.length M w4) := hsg4
          have HO4 : Hid (Own flH.c 7 55 w4 h ms ms.length) := om4
          have HN4 : Hid (w4.heap[w3.heap.size]? = some (.cells #[.int .i64 t, .int .i64 o, .int .i64 q, .string x, .string y, .string z, .bool ag] 55 (0, 0))) := hN4
          clear hse v3 m0 m1 m2 m3 m4 m5 m6 hpos HSGV HOMV HN hsg4
          have m0 : w4.cell? ⟨w3.heap.size, 0, none⟩ = some (.int .i64 t) := bcell hN4 rfl
          have m1 : w4.cell? ⟨w3.heap.size, 1, none⟩ = some (.int .i64 o) := bcell hN4 rfl
          have m2 : w4.cell? ⟨w3.heap.size, 2, none⟩ = some (.int .i64 q) := bcell hN4 rfl
          have m3 : w4.cell? ⟨w3.heap.size, 3, none⟩ = some (.string x) := bcell hN4 rfl
          have m4 : w4.cell? ⟨w3.heap.size, 4, none⟩ = some (.string y) := bcell hN4 rfl
          have m5 : w4.cell? ⟨w3.heap.size, 5, none⟩ = some (.string z) := bcell hN4 rfl
          have m6 : w4.cell? ⟨w3.heap.size, 6, none⟩ = some (.bool ag) := bcell hN4 rfl
          by_cases hpl : p < ms.length
          · have i2 : (p : Int) < (ms.length : Int) := by omega
            have d2 : decide ((p : Int) < (ms.length : Int)) = true := by simpa using i2
            have HG : Hid (ms[p]? = some ms[p]) := List.getElem?_eq_getElem hpl
            obtain ⟨hd, he⟩ : ∃ e, ms[p] = e := ⟨_, rfl⟩
            rw [he] at HG
            obtain ⟨_, c1, _⟩ := (sch.rh_of om4.lt om4.row).2 p hd HG.out
            clear he om4 hN4
            by_cases hoo : hd.o = o
            · have q1 : (hd.o == o) = true := by simpa using hoo
              have hla : ms.any (qpp.late o t) = true := (qpp.late_iff HOK.out HPS.out).2 ⟨hd, HG.out, hoo⟩
              clear hoo
              obtain rfl : es = AR := by have := HAR.out; rw [HGT.out] at this; exact this.symm
              obtain rfl : ms = AH := by have := HAH.out; rw [HGT.out] at this; exact this.symm
              obtain rfl : qpp.headM [] = AM := by have := HAM.out; rw [HGT.out] at this; exact this.symm
              obtain rfl : GD = false := HGT.out
              have hcq := CP.out w4 hB4
              clear HAR HAH HAM HGD HGT
              obtain ⟨⟨x0, x1, x2, x3⟩, _⟩ := BX.out w4 hB4
              go_wp2_with (go_at_call 21; fail)
              clear x0 x1 x2 x3
              refine hcq.mono ?_
              rintro e wz ⟨g, h, rfl, hg, hh, hgh, oe, om, hbz⟩
              have hBz : Below W.heap.size W wz := hB4.trans (hbz.mono hB4.size)
              obtain ⟨_, ⟨z0, z1, z2, z3⟩, ⟨y0, y1, y2, y3, y4⟩, ⟨f0, f1, f2, f3⟩, e0, e1, e2, e3, e4⟩ := BX.out wz hBz
              have hsx := hB4.size
              have HFN : Hid (OwnO flM.c 5 41 wz g 0 es es.length ∧ OwnO flH.c 7 55 wz h 0 ms ms.length ∧ Below w.heap.size w wz) := ⟨of_own oe, of_own om, hWb.trans (hBz.mono hWb.size)⟩
              clear hcq oe om hbz hBz
              go_wp2
              refine bodyPost_ret (v := .tuple #[.agg #[.string nm, .int .i64 nx, .slice (some ⟨g, 0, none⟩) es.length es.length, .slice (some ⟨h, 0, none⟩) ms.length ms.length], .agg #[.int .i64 0, .string ⟨#[]⟩, .string ⟨#[]⟩, .string ⟨#[]⟩, .bool false], .bool false]) (by simp [results, Try.results17, go_sem, z0, z1, z2, z3, y0, y1, y2, y3, y4]) rfl ⟨g, _, h, _, rfl, by omega, by omega, hgh, ?_, ?_, ?_⟩
              · exact HFN.out.1.kept (s9.heap (by omega) (by omega))
              · exact HFN.out.2.1.kept (s9.heap (by omega) (by omega))
              · exact s9.bel HFN.out.2.2 (by omega) (by omega)
            · have q1 : (hd.o == o) = false := by simpa using hoo
              have hla : ms.any (qpp.late o t) = false := by
                cases hh : ms.any (qpp.late o t) with
                | false => rfl
                | true => obtain ⟨a, h1, h2⟩ := (qpp.late_iff HOK.out HPS.out).1 hh; rw [HG.out] at h1; cases h1; exact absurd h2 hoo
              clear hoo
              exact absurd (HGT.out.symm.trans HGD.out.symm) (by simp [hie, hla])
          · have hpe : p = ms.length := by omega
            have i2 : ¬ (p : Int) < (ms.length : Int) := by omega
            have d2 : decide ((p : Int) < (ms.length : Int)) = false := by simpa using i2
            have hla : ms.any (qpp.late o t) = false := by
              cases hh : ms.any (qpp.late o t) with
              | false => rfl
              | true => obtain ⟨a, h1, h2⟩ := (qpp.late_iff HOK.out HPS.out).1 hh; have := (List.getElem?_eq_some_iff.1 h1).1; omega
            clear om4 hN4
            exact absurd (HGT.out.symm.trans HGD.out.symm) (by simp [hie, hla])
end Go.Proofs.Ytnlcmheahihlpaa.qoi
