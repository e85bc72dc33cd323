/- copyTable: the same table, its pairs and runs in rows of their own; new memory alone. -/
import Derived.Test.YtokaoafbgebelaaTd02
import Derived.Test.YtokaoafbgebelaaRunLib
import Derived.Test.YtokaoafbgebelaaTd01
import Derived.Deep.DeepAppendWide
import Derived.Laws.CopyOwn
import Derived.Maps.AppendAt
import Derived.Test.YtokaoafbgebelaaPutPure
import Derived.Test.YtokaoafbgebelaaTd11
import Derived.Test.YtokaoafbgebelaaTd03
import Derived.Test.YtokaoafbgebelaaTd12
import Derived.Test.YtokaoafbgebelaaTabLib

/- slices.Insert of one pair into a row of pairs that has no room: the same row with it in its place, in a row of its own. -/
namespace Go.Proofs.Ytokaoafbgebelaa.insp
open Go.ChangeShapes Go.WideShapes Go.ChangeAt Go.RowKit Go.Proofs.Ytokaoafbgebelaa.rn Go.Proofs.Ytokaoafbgebelaa.fl
set_option linter.unusedVariables false

theorem infoX : ∃ i0, Try.prog.info? 40 = some i0 ∧ i0.zero = some (.agg #[.string ByteArray.empty, .string ByteArray.empty, .bool false]) ∧ i0.size = 3 ∧ i0.bytes = 40 := by
  have h : (Try.prog.info? 40).map (fun i => (i.zero, i.size, i.bytes)) = some (some (.agg #[.string ByteArray.empty, .string ByteArray.empty, .bool false]), 3, 40) := by kernel_rfl
  cases hh : Try.prog.info? 40 with
  | none => rw [hh] at h; cases h
  | some i => rw [hh] at h; simp at h; exact ⟨i, rfl, h.1, h.2.1, h.2.2⟩
theorem own_form {w : World} {B n : Nat} {U : TypeId} {s : Nat} {v : Value} {xs : List Value} (h : w.ownsRow B U s v (n + 1) xs) : ∃ g cap, v = .slice (some ⟨g, 0, none⟩) (n + 1) cap := by
  obtain ⟨_, ⟨rfl, h0⟩ | ⟨g, cap, cur, rfl, _⟩⟩ := h
  · omega
  · exact ⟨g, cap, rfl⟩
theorem owns_at {w : World} {B n s g c : Nat} {U : TypeId} {xs : List Value} (h : w.ownsRow B U s (.slice (some ⟨g, 0, none⟩) n c) n xs) : B ≤ g ∧ ∃ cur, w.heap[g]? = some (.cells cur U (0, 0)) := by
  obtain ⟨_, ⟨h1, _⟩ | ⟨g', cap', cur, h1, h2, h3, _⟩⟩ := h
  · cases h1
  cases h1
  exact ⟨h2, cur, h3⟩
theorem add_at (g o j : Nat) : (⟨g, o, none⟩ : Addr).add j = ⟨g, o + j, none⟩ := by unfold Addr.add; split <;> simp_all
theorem oneX (ms : List flP.Pr) : ∀ u ∈ ms.flatMap flP.c, u.oneCell' = true := fun u hu => by
  obtain ⟨e, _, he⟩ := List.mem_flatMap.1 hu
  simp [flP.c] at he
  rcases he with rfl | rfl | rfl <;> rfl
/-- the cells of an owned row -/
theorem owns_cells {α : Type} {c : α → List Value} {n B g cap : Nat} {U : TypeId} {l : List α} {w : World} (hn : ∀ e, (c e).length = n) (h : w.ownsRow B U n (.slice (some ⟨g, 0, none⟩) l.length cap) l.length (l.flatMap c)) : ∀ (j : Nat) (u : Value), (l.flatMap c)[j]? = some u → w.cell? ⟨g, j, none⟩ = some u := fun j u hu => by
  obtain ⟨_, ⟨h1, _⟩ | ⟨g', cap', cur, h1, h2, h3, h4, h5, h6, h7⟩⟩ := h
  · cases h1
  cases h1
  rw [← h7] at hu
  have hlt := (List.getElem?_eq_some_iff.1 hu).1
  rw [List.length_take] at hlt
  rw [List.getElem?_take_of_lt (by omega)] at hu
  exact bcell h3 (by simpa using hu)
theorem flat_take {α : Type} {c : α → List Value} (l : List α) (i : Nat) : (l.take i).flatMap c ++ (l.drop i).flatMap c = l.flatMap c := by rw [← List.flatMap_append, List.take_append_drop]
/-- two copies into a row: what was ahead, what is put in, what stood from there on -/
theorem two_copies {xs v cs rest : List Value} {o1 o2 : Nat} (h1 : xs.length = o1) (h2 : o1 + v.length = o2) (hr : v.length + cs.length ≤ rest.length) :
    (((xs ++ rest).take o1 ++ v ++ (xs ++ rest).drop (o1 + v.length)).take o2 ++ cs ++ ((xs ++ rest).take o1 ++ v ++ (xs ++ rest).drop (o1 + v.length)).drop (o2 + cs.length)) = xs ++ v ++ cs ++ rest.drop (v.length + cs.length) := by
  subst h1
  subst h2
  rw [List.take_left, List.drop_append, List.drop_eq_nil_of_le (by omega), List.nil_append, show xs.length + v.length - xs.length = v.length by omega]
  have e1 : (xs ++ v).length = xs.length + v.length := List.length_append
  rw [← e1, List.take_left, List.drop_append, List.drop_eq_nil_of_le (by omega), List.nil_append, List.drop_drop]
  congr 2
  omega
/-- the row behind it is owned -/
theorem owns_new {B g cap n : Nat} {U : TypeId} {w : World} {cur : Array Value} {ys tl : List Value} (hg : w.heap[g]? = some (.cells cur U (0, 0))) (hB : B ≤ g) (hc : cur.toList = ys ++ tl) (hy : ys.length = n * 3) (hn : n ≤ cap) (hm : cap ≤ maxLen) (hs : cur.size = cap * 3) : w.ownsRow B U 3 (.slice (some ⟨g, 0, none⟩) n cap) n ys :=
  ⟨hy, .inr ⟨g, cap, cur, rfl, hB, hg, hn, hm, hs, by rw [hc, ← hy, List.take_left]⟩⟩

def ws (b g i n G : Nat) : List (Nat × Value) := [(46, .slice (some ⟨b, 0, none⟩) (n + 1) G), (47, .int .i64 i), (48, .int .i64 1), (49, .int .i64 ((i : Int) + 1)), (50, .slice (some ⟨b, (i + 1) * 3, none⟩) (n - i) (G - (i + 1))), (51, .slice (some ⟨g, 0, none⟩) n n), (52, .int .i64 i), (53, .slice (some ⟨g, i * 3, none⟩) (n - i) (n - i)), (54, .int .i64 ((n - i : Nat) : Int))]

set_option maxRecDepth 100000 in
set_option maxHeartbeats 4000000 in
theorem insert_mid (l : List flP.Pr) (g i B : Nat) (bx bk : ByteArray) (bq : Bool) (ga : Nat) (w : World) (hi : i < l.length) (hl : l.length ≤ 1048576) (hB : B ≤ w.heap.size) (ho : w.ownsRow B 40 3 (.slice (some ⟨g, 0, none⟩) l.length l.length) l.length (l.flatMap flP.c)) (ha : w.heap[ga]? = some (.cells #[.string bx, .string bk, .bool bq] 40 (0, 0))) :
    Calls Try.prog 71 #[.slice (some ⟨g, 0, none⟩) l.length l.length, .int .i64 i, .slice (some ⟨ga, 0, none⟩) 1 1] w fun r w' => ∃ g2 c2, r = .returned (.slice (some ⟨g2, 0, none⟩) (l.length + 1) c2) ∧ w'.ownsRow B 40 3 (.slice (some ⟨g2, 0, none⟩) (l.length + 1) c2) (l.length + 1) ((l.take i ++ ⟨bx, bk, bq⟩ :: l.drop i).flatMap flP.c) ∧ w.heap.size ≤ g2 ∧ Below w.heap.size w w' := by
  obtain ⟨i1, ki, kz0, kz1, kz2⟩ := infoX
  have hcells := owns_cells flP.c_len ho
  have hgl : g < w.heap.size := by obtain ⟨_, cur, hcur⟩ := owns_at ho; exact (Array.getElem?_eq_some_iff.1 hcur).1
  have hgal := (Array.getElem?_eq_some_iff.1 ha).1
  obtain ⟨n, hn⟩ : ∃ n, l.length = n := ⟨_, rfl⟩
  have hxl : ((l.take i).flatMap flP.c).length = i * 3 := by rw [flat_len flP.c_len, List.length_take]; congr 1; omega
  have hdl : ((l.drop i).flatMap flP.c).length = (n - i) * 3 := by rw [flat_len flP.c_len, List.length_drop, hn]
  have hxc : ∀ (j : Nat) (u : Value), ((l.take i).flatMap flP.c)[j]? = some u → w.cell? ((⟨g, 0, none⟩ : Addr).add j) = some u := fun j u hu => by
    rw [add_at, Nat.zero_add]
    refine hcells j u ?_
    rw [← flat_take l i, List.getElem?_append_left (List.getElem?_eq_some_iff.1 hu).1]
    exact hu
  have hdc : ∀ (j : Nat) (u : Value), ((l.drop i).flatMap flP.c)[j]? = some u → w.cell? ((⟨g, i * 3, none⟩ : Addr).add j) = some u := fun j u hu => by
    rw [add_at]
    refine hcells (i * 3 + j) u ?_
    rw [← flat_take l i, List.getElem?_append_right (by rw [hxl]; omega), hxl, show i * 3 + j - i * 3 = j by omega]
    exact hu
  rw [hn] at hi hl
  simp only [hn]
  have hz := fun ty => az.run_append_zeros (P := Try.prog) w 24 3 ty 40 i1 _ Try.underlying24 Try.underlying3 ki kz0 ⟨g, 0, none⟩ i n ((l.take i).flatMap flP.c) (by rw [hxl, kz1]) hxc (n + 1 - i) (by rw [kz1]; omega) (by omega) (by omega) (by rw [kz2]; omega) (by rw [kz2]; exact growslice_fits_wide (by omega) (by omega))
  rw [show i + (n + 1 - i) = n + 1 by omega] at hz
  have hG1 := grownCap_ge w (n + 1) n 40
  have hG2 := grownCap_le_maxLen w (n + 1) n 40 (by unfold maxLen; omega)
  obtain ⟨G, hG⟩ : ∃ G, grownCap w (n + 1) n 40 = G := ⟨_, rfl⟩
  rw [hG] at hz hG1 hG2
  obtain ⟨rest, hrest⟩ : ∃ rest : List Value, rest.length = (G - i) * 3 ∧ ∀ zc : Array Value, zc = (Value.agg #[.string ByteArray.empty, .string ByteArray.empty, .bool false]).cells → (((l.take i).flatMap flP.c).toArray ++ Builtin.zeroCells zc (n + 1 - i) ++ Builtin.zeroCells zc (G - (n + 1))) = (((l.take i).flatMap flP.c) ++ rest).toArray := by
    refine ⟨(Builtin.zeroCells (Value.agg #[.string ByteArray.empty, .string ByteArray.empty, .bool false]).cells (n + 1 - i) ++ Builtin.zeroCells (Value.agg #[.string ByteArray.empty, .string ByteArray.empty, .bool false]).cells (G - (n + 1))).toList, ?_, ?_⟩
    · simp [size_zeroCells, Value.cells]; omega
    · rintro zc rfl; simp
  have hrow := hrest.2 _ rfl
  rw [hrow] at hz
  have hk : (n : Int) + 1 - (i : Int) = ((n + 1 - i : Nat) : Int) := by omega
  rw [← hk] at hz
  obtain ⟨xs, hxs⟩ : ∃ xs, (l.take i).flatMap flP.c = xs := ⟨_, rfl⟩
  obtain ⟨cs, hcs⟩ : ∃ cs, (l.drop i).flatMap flP.c = cs := ⟨_, rfl⟩
  rw [hxs] at hz hxl
  rw [hcs] at hdl hdc
  have hfl : (l.take i ++ ⟨bx, bk, bq⟩ :: l.drop i).flatMap flP.c = xs ++ [Value.string bx, Value.string bk, Value.bool bq] ++ cs := by rw [← hxs, ← hcs]; simp [flP.c]
  rw [hfl]
  have hone : ∀ u ∈ cs, u.oneCell' = true := by rw [← hcs]; exact oneX _
  have hg1 : (w.drew.alloc (.cells (xs ++ rest).toArray 40)).heap[w.heap.size]? = some (.cells (xs ++ rest).toArray 40 (0, 0)) := bnew w.drew _ _
  have hb1 : Below w.heap.size w (w.drew.alloc (.cells (xs ++ rest).toArray 40)) := (Below.refl _ w).drew.alloc (Nat.le_refl _) _
  obtain ⟨W1, hW1⟩ : ∃ W1, w.drew.alloc (.cells (xs ++ rest).toArray 40) = W1 := ⟨_, rfl⟩
  rw [hW1] at hz hg1 hb1
  have hav := bstay ha hb1 hgal
  have hrl := hrest.1
  have hmin1 : Nat.min 1 (n + 1 - i) = 1 := Nat.min_eq_left (by omega)
  have hmin2 : Nat.min (n - i) (n - i) = n - i := Nat.min_self _
  have hc1 := fun ty => cpr.run_copy_rows (P := Try.prog) W1 24 24 ty 40 i1 w.heap.size (i * 3) (n + 1 - i) (G - i) ⟨ga, 0, none⟩ 1 1 (xs ++ rest).toArray 40 [Value.string bx, Value.string bk, Value.bool bq] Try.underlying24 ki hg1 (by rw [kz1, hmin1]; rfl) (fun j u hu => by
    rw [add_at, Nat.zero_add]
    match j, hu with
    | 0, hu => cases hu; exact bcell hav rfl
    | 1, hu => cases hu; exact bcell hav rfl
    | 2, hu => cases hu; exact bcell hav rfl
    | j + 3, hu => simp at hu) (by simp; omega) (by simp [Value.oneCell'])
  rw [hmin1] at hc1
  simp only [show ([Value.string bx, Value.string bk, Value.bool bq] : List Value).length = 3 from rfl] at hc1
  obtain ⟨A1, hA1⟩ : ∃ A1 : List Value, (xs ++ rest).take (i * 3) ++ [Value.string bx, Value.string bk, Value.bool bq] ++ (xs ++ rest).drop (i * 3 + 3) = A1 := ⟨_, rfl⟩
  rw [hA1] at hc1
  have hA1l : A1.length = i * 3 + (G - i) * 3 := by rw [← hA1]; simp; omega
  have hg2 : (W1.setRow w.heap.size A1.toArray).heap[w.heap.size]? = some (.cells A1.toArray 40 (0, 0)) := setRow_heap W1 w.heap.size _ _ 40 _ hg1
  have hb2 : Below w.heap.size w (W1.setRow w.heap.size A1.toArray) := below_setRow hb1 (Nat.le_refl _) _
  obtain ⟨W2, hW2⟩ : ∃ W2, W1.setRow w.heap.size A1.toArray = W2 := ⟨_, rfl⟩
  rw [hW2] at hc1 hg2 hb2
  have hc2 := fun ty => cpr.run_copy_rows (P := Try.prog) W2.drew 24 24 ty 40 i1 w.heap.size ((i + 1) * 3) (n - i) (G - (i + 1)) ⟨g, i * 3, none⟩ (n - i) (n - i) A1.toArray 40 cs Try.underlying24 ki hg2 (by rw [kz1, hmin2, hdl]) (fun j u hu => by
    have := hdc j u hu
    rw [add_at] at this ⊢
    exact (hb2.drew.cell (p := ⟨g, i * 3 + j, none⟩) hgl).trans this) (by rw [hdl]; simp; omega) hone
  rw [hmin2] at hc2
  have hc2 := fun ty => (hc2 ty).trans rfl
  have htwo : A1.take ((i + 1) * 3) ++ cs ++ A1.drop ((i + 1) * 3 + cs.length) = xs ++ [Value.string bx, Value.string bk, Value.bool bq] ++ cs ++ rest.drop (3 + cs.length) := by
    rw [← hA1]
    exact two_copies (v := [Value.string bx, Value.string bk, Value.bool bq]) hxl (by show i * 3 + 3 = (i + 1) * 3; omega) (by show 3 + cs.length ≤ rest.length; omega)
  rw [htwo] at hc2
  have hg3 : (W2.drew.setRow w.heap.size (xs ++ [Value.string bx, Value.string bk, Value.bool bq] ++ cs ++ rest.drop (3 + cs.length)).toArray).heap[w.heap.size]? = some (.cells (xs ++ [Value.string bx, Value.string bk, Value.bool bq] ++ cs ++ rest.drop (3 + cs.length)).toArray 40 (0, 0)) := setRow_heap W2.drew w.heap.size _ _ 40 _ hg2
  have hb3 : Below w.heap.size w (W2.drew.setRow w.heap.size (xs ++ [Value.string bx, Value.string bk, Value.bool bq] ++ cs ++ rest.drop (3 + cs.length)).toArray) := below_setRow hb2.drew (Nat.le_refl _) _
  have hown : (W2.drew.setRow w.heap.size (xs ++ [Value.string bx, Value.string bk, Value.bool bq] ++ cs ++ rest.drop (3 + cs.length)).toArray).ownsRow B 40 3 (.slice (some ⟨w.heap.size, 0, none⟩) (n + 1) G) (n + 1) (xs ++ [Value.string bx, Value.string bk, Value.bool bq] ++ cs) :=
    owns_new (tl := rest.drop (3 + cs.length)) hg3 hB (by simp) (by simp; omega) hG1 hG2 (by simp; omega)
  obtain ⟨W3, hW3⟩ : ∃ W3, W2.drew.setRow w.heap.size (xs ++ [Value.string bx, Value.string bk, Value.bool bq] ++ cs ++ rest.drop (3 + cs.length)).toArray = W3 := ⟨_, rfl⟩
  rw [hW3] at hc2 hb3 hown
  have HB3 : Hid (Below w.heap.size w W3) := hb3
  have HOWN : Hid (W3.ownsRow B 40 3 (.slice (some ⟨w.heap.size, 0, none⟩) (n + 1) G) (n + 1) (xs ++ [Value.string bx, Value.string bk, Value.bool bq] ++ cs)) := hown
  have i9 : IntKind.i64.wrap ((i : Int) + 1) = (i : Int) + 1 := by rw [IntKind.wrap_i64]; omega
  have r1 : i ≤ n := by omega
  have r2 : (0 : Int) ≤ (i : Int) + 1 := by omega
  have r3 : ¬ G = i + 1 := by omega
  have r4 : ¬ n = i := by omega
  have q1 : ¬ (i : Int) = (n : Int) := by omega
  have q2 : i < G := by omega
  have q3 : i + 1 < G := by omega
  have q4 : (n : Int) < (n : Int) + 1 := by omega
  have q5 : n - i ≠ 0 := by omega
  clear hcells hxc hdc ho ha hrest hrow hav hg1 hg2 hg3 hb1 hb2 hb3 hown hA1 htwo hW1 hW2 hW3 hone hfl hxs hcs hk hG
  go_enter Try.func71, Try.ntmps71
  go_wp2_with (at_builtin; first | refine cpr.wpList_append_run rfl _ _ 24 3 rfl _ _ _ rfl rfl (hz _) ?_ | refine cpr.wpList_copy_run rfl _ _ 24 24 rfl _ _ _ rfl rfl (hc1 _) ?_)
  refine dk.region_sets (ws w.heap.size g i n G) [46, 47, 48, 49, 50, 51, 52, 53, 54] (dk.Cl (fun b W => W = if b then W3 else W2.drew) 8) (by kernel_rfl) (by kernel_rfl) rfl (by kernel_rfl) rfl ?each ?fin
  case each =>
    refine ⟨dk.q (by decide) (.slice (some ⟨w.heap.size, 0, none⟩) (n + 1) G) (by rintro _ ⟨⟩; exact dk.sets_on _ (by simp) _ rfl) (fun b W h => by simp [execOp, go_sem, Act.eval, dk.sets_get, ws, List.lookup]), ?_⟩
    refine ⟨dk.q (by decide) (.int .i64 i) (by rintro _ ⟨⟩; exact dk.sets_on _ (by simp) _ rfl) (fun b W h => by simp [execOp, go_sem, Act.eval, dk.sets_get, ws, List.lookup]), ?_⟩
    refine ⟨dk.q (by decide) (.int .i64 1) (by rintro _ ⟨⟩; exact dk.sets_on _ (by simp) _ rfl) (fun b W h => by simp [execOp, go_sem, Act.eval, dk.sets_get, ws, List.lookup]), ?_⟩
    refine ⟨dk.q (by decide) (.int .i64 ((i : Int) + 1)) (by rintro _ ⟨⟩; exact dk.sets_on _ (by simp) _ rfl) (fun b W h => by simp [execOp, go_sem, Act.eval, dk.sets_get, ws, List.lookup, i9]), ?_⟩
    refine ⟨dk.q (by decide) (.slice (some ⟨w.heap.size, (i + 1) * 3, none⟩) (n - i) (G - (i + 1))) (by rintro _ ⟨⟩; exact dk.sets_on _ (by simp) _ rfl) (fun b W h => by simp [execOp, go_sem, Act.eval, dk.sets_get, ws, List.lookup, r1, r2, r3]), ?_⟩
    refine ⟨dk.q (by decide) (.slice (some ⟨g, 0, none⟩) n n) (by rintro _ ⟨⟩; exact dk.sets_on _ (by simp) _ rfl) (fun b W h => by simp [execOp, go_sem, Act.eval, dk.sets_get, ws, List.lookup]), ?_⟩
    refine ⟨dk.q (by decide) (.int .i64 i) (by rintro _ ⟨⟩; exact dk.sets_on _ (by simp) _ rfl) (fun b W h => by simp [execOp, go_sem, Act.eval, dk.sets_get, ws, List.lookup]), ?_⟩
    refine ⟨dk.q (by decide) (.slice (some ⟨g, i * 3, none⟩) (n - i) (n - i)) (by rintro _ ⟨⟩; exact dk.sets_on _ (by simp) _ rfl) (fun b W h => by simp [execOp, go_sem, Act.eval, dk.sets_get, ws, List.lookup, r1, r4]), ?_⟩
    refine ⟨cpr.lastv (.int .i64 ((n - i : Nat) : Int)) (by rintro _ ⟨⟩; exact dk.sets_on _ (by simp) _ rfl) (fun W h => ?_), trivial⟩
    obtain rfl : W = W2.drew := h
    refine ⟨W3, ?_, rfl⟩
    simp [execOp, resolve, invoke, builtin, Act.eval, dk.sets_get, ws, List.lookup, hc2]
    rfl
  case fin =>
    intro L W hL hC
    obtain rfl : W = W3 := by
      have h8 := hL 8 (by decide)
      unfold dk.Cl at hC
      rw [h8] at hC
      exact hC
    simp only [dk.sets, ws]
    go_wp2
    go_ret
    exact ⟨_, _, rfl, HOWN.out, Nat.le_refl _, HB3.out⟩
set_option maxRecDepth 100000 in
set_option maxHeartbeats 4000000 in
theorem insert_end (l : List flP.Pr) (g B : Nat) (bx bk : ByteArray) (bq : Bool) (ga : Nat) (w : World) (hl : l.length ≤ 1048576) (hB : B ≤ w.heap.size) (ho : w.ownsRow B 40 3 (.slice (some ⟨g, 0, none⟩) l.length l.length) l.length (l.flatMap flP.c)) (ha : w.heap[ga]? = some (.cells #[.string bx, .string bk, .bool bq] 40 (0, 0))) :
    Calls Try.prog 71 #[.slice (some ⟨g, 0, none⟩) l.length l.length, .int .i64 l.length, .slice (some ⟨ga, 0, none⟩) 1 1] w fun r w' => ∃ g2 c2, r = .returned (.slice (some ⟨g2, 0, none⟩) (l.length + 1) c2) ∧ w'.ownsRow B 40 3 (.slice (some ⟨g2, 0, none⟩) (l.length + 1) c2) (l.length + 1) ((l ++ [(⟨bx, bk, bq⟩ : flP.Pr)]).flatMap flP.c) ∧ (g2 = g ∨ w.heap.size ≤ g2) ∧ w.grownBy w' (some g) := by
  obtain ⟨i1, ki, kz0, kz1, kz2⟩ := infoX
  have hfl : (l ++ [(⟨bx, bk, bq⟩ : flP.Pr)]).flatMap flP.c = l.flatMap flP.c ++ [Value.string bx, Value.string bk, Value.bool bq] := by rw [List.flatMap_append]; simp [flP.c]
  rw [hfl]
  have hnw : ∀ (j : Nat) (u : Value), [Value.string bx, Value.string bk, Value.bool bq][j]? = some u → w.cell? ((⟨ga, 0, none⟩ : Addr).add j) = some u := fun j u hu => by
    rw [add_at, Nat.zero_add]
    match j, hu with
    | 0, hu => cases hu; exact bcell ha rfl
    | 1, hu => cases hu; exact bcell ha rfl
    | 2, hu => cases hu; exact bcell ha rfl
    | j + 3, hu => simp at hu
  clear hfl ha
  go_enter Try.func71, Try.ntmps71
  go_wp2_with (at_builtin; refine wpList_append_own_at _ rfl _ _ 24 rfl B 40 i1 (.agg #[.string ByteArray.empty, .string ByteArray.empty, .bool false]) 3 40 Try.underlying24 ki kz0 kz1 kz2 rfl (by decide) _ _ _ rfl ho ⟨ga, 0, none⟩ 1 1 [Value.string bx, Value.string bk, Value.bool bq] rfl rfl hnw (by simp [Value.oneCell']) (by unfold maxLen; omega) (by omega) hB ?_)
  intro v' w' hown hgrow _ hat
  obtain ⟨g2, c2, rfl⟩ := own_form hown
  have HO : Hid (w'.ownsRow B 40 3 (.slice (some ⟨g2, 0, none⟩) (l.length + 1) c2) (l.length + 1) (l.flatMap flP.c ++ [Value.string bx, Value.string bk, Value.bool bq])) := hown
  have HG : Hid (w.grownBy w' (some g)) := hgrow
  have HAT : Hid (g2 = g ∨ w.heap.size ≤ g2) := by
    rcases hat with h | h
    · exact .inl (Option.some.inj h)
    · exact .inr (Nat.le_of_eq (Option.some.inj h).symm)
  clear hown hgrow ho hnw hat
  go_wp2
  go_ret
  exact ⟨_, _, rfl, HO.out, HAT.out, HG.out⟩
/-- either way -/
theorem insert_pair (l : List flP.Pr) (g i B : Nat) (bx bk : ByteArray) (bq : Bool) (ga : Nat) (w : World) (hi : i ≤ l.length) (hl : l.length ≤ 1048576) (hB : B ≤ w.heap.size) (ho : w.ownsRow B 40 3 (.slice (some ⟨g, 0, none⟩) l.length l.length) l.length (l.flatMap flP.c)) (ha : w.heap[ga]? = some (.cells #[.string bx, .string bk, .bool bq] 40 (0, 0))) :
    Calls Try.prog 71 #[.slice (some ⟨g, 0, none⟩) l.length l.length, .int .i64 i, .slice (some ⟨ga, 0, none⟩) 1 1] w fun r w' => ∃ g2 c2, r = .returned (.slice (some ⟨g2, 0, none⟩) (l.length + 1) c2) ∧ w'.ownsRow B 40 3 (.slice (some ⟨g2, 0, none⟩) (l.length + 1) c2) (l.length + 1) ((l.take i ++ ⟨bx, bk, bq⟩ :: l.drop i).flatMap flP.c) ∧ (g2 = g ∨ w.heap.size ≤ g2) ∧ w.grownBy w' (some g) := by
  by_cases h : i < l.length
  · exact (insert_mid l g i B bx bk bq ga w h hl hB ho ha).mono fun r w' ⟨g2, c2, h1, h2, h4, h3⟩ => ⟨g2, c2, h1, h2, .inr h4, ⟨h3.os, h3.tape, h3.output, h3.size, fun k hk _ => h3.block k hk⟩⟩
  · obtain rfl : i = l.length := by omega
    rw [List.take_length, List.drop_length]
    exact insert_end l g B bx bk bq ga w hl hB ho ha
end Go.Proofs.Ytokaoafbgebelaa.insp

/- The program's putSorted at pairs: an ascending run with a pair in its place. -/
namespace Go.Proofs.Ytokaoafbgebelaa.psi
open Go.ChangeShapes Go.WideShapes Go.ChangeAt Go.RowKit Go.Proofs.Ytokaoafbgebelaa.fl Go.Proofs.Ytokaoafbgebelaa.fo Go.Proofs.Ytokaoafbgebelaa.rn Go.Proofs.Ytokaoafbgebelaa.rc Go.Proofs.Ytokaoafbgebelaa.ro Go.Proofs.Ytokaoafbgebelaa.tk Go.Proofs.Ytokaoafbgebelaa.pf Go.Proofs.Ytokaoafbgebelaa.ptp
set_option linter.unusedVariables false

theorem flat_set (l : List flP.Pr) (p : Nat) (pk pv : ByteArray) (pg : Bool) : p < l.length → (((l.flatMap flP.c).set (p * 3) (.string pk)).set (p * 3 + 1) (.string pv)).set (p * 3 + 2) (.bool pg) = (l.set p ⟨pk, pv, pg⟩).flatMap flP.c := by
  induction l generalizing p with
  | nil => intro h; simp at h
  | cons e l ih =>
    intro h
    cases p with
    | zero => simp [flP.c]
    | succ p =>
      have := ih p (by simp at h; omega)
      simp only [List.flatMap_cons, List.set_cons_succ, flP.c] at this ⊢
      rw [← this, show (p + 1) * 3 = p * 3 + 3 by omega]
      simp
theorem owns_put {W : World} {B gm c p : Nat} {l : List flP.Pr} {pk pv : ByteArray} {pg : Bool} (h : W.ownsRow B 40 3 (.slice (some ⟨gm, 0, none⟩) l.length c) l.length (l.flatMap flP.c)) (hp : p < l.length) : (((W.setCell ⟨gm, p * 3, none⟩ (.string pk)).setCell ⟨gm, p * 3 + 1, none⟩ (.string pv)).setCell ⟨gm, p * 3 + 2, none⟩ (.bool pg)).ownsRow B 40 3 (.slice (some ⟨gm, 0, none⟩) (l.set p ⟨pk, pv, pg⟩).length c) (l.set p ⟨pk, pv, pg⟩).length ((l.set p ⟨pk, pv, pg⟩).flatMap flP.c) := by
  obtain ⟨h0, ⟨h1, _⟩ | ⟨g', cap', cur, h1, h2, h3, h4, h5, h6, h7⟩⟩ := h
  · cases h1
  cases h1
  have hs := bset (bset (bset h3 (p * 3) (.string pk)) (p * 3 + 1) (.string pv)) (p * 3 + 2) (.bool pg)
  rw [List.length_set]
  refine ⟨by rw [flat_len flP.c_len, List.length_set], .inr ⟨gm, c, _, rfl, h2, hs, h4, h5, by simp [h6], ?_⟩⟩
  rw [← flat_set l p pk pv pg hp, ← h7]
  simp [List.take_set]

set_option maxRecDepth 100000 in
set_option maxHeartbeats 4000000 in
theorem impl_sorted (l : List flP.Pr) (g B : Nat) (pk pv : ByteArray) (pg : Bool) (w : World) (hl : l.length ≤ 1048576) (hup : UpP l l.length) (hB : B ≤ w.heap.size) (ho : w.ownsRow B 40 3 (.slice (some ⟨g, 0, none⟩) l.length l.length) l.length (l.flatMap flP.c)) :
    Calls Try.prog 57 #[.slice (some ⟨g, 0, none⟩) l.length l.length, .agg #[.string pk, .string pv, .bool pg], .func (.func 41) #[] #[]] w fun e w' => ∃ g2 c2, e = .returned (.slice (some ⟨g2, 0, none⟩) (setP l ⟨pk, pv, pg⟩).length c2) ∧ w'.ownsRow B 40 3 (.slice (some ⟨g2, 0, none⟩) (setP l ⟨pk, pv, pg⟩).length c2) (setP l ⟨pk, pv, pg⟩).length ((setP l ⟨pk, pv, pg⟩).flatMap flP.c) ∧ (g2 = g ∨ w.heap.size ≤ g2) ∧ w.grownBy w' (some g) := by
  have hb : Below w.heap.size w (w.alloc (.cells #[.string pk, .string pv, .bool pg] 40)) := (Below.refl _ _).alloc (Nat.le_refl _) _
  have hA := bnew w #[.string pk, .string pv, .bool pg] 40
  have hown := ho.alloc (.cells #[.string pk, .string pv, .bool pg] 40)
  have hgl := (ho.lt g rfl).2
  obtain ⟨W, hW⟩ : ∃ W, w.alloc (.cells #[.string pk, .string pv, .bool pg] 40) = W := ⟨_, rfl⟩
  have hsW : W.heap.size = w.heap.size + 1 := by rw [← hW]; simp
  rw [hW] at hb hA hown
  have hse := tgi.search_pair l (some ⟨g, 0, none⟩) l.length pk pv pg W hl (by obtain ⟨a', c', e, hr⟩ := own_row flP.c_len hown; cases e; exact hr) (up_mon hup _)
  have HA : Hid (W.heap[w.heap.size]? = some (.cells #[.string pk, .string pv, .bool pg] 40 (0, 0))) := hA
  have p0 : W.cell? ⟨w.heap.size, 0, none⟩ = some (.string pk) := bcell hA rfl
  have p1 : W.cell? ⟨w.heap.size, 1, none⟩ = some (.string pv) := bcell hA rfl
  have p2 : W.cell? ⟨w.heap.size, 2, none⟩ = some (.bool pg) := bcell hA rfl
  have HOW : Hid (W.ownsRow B 40 3 (.slice (some ⟨g, 0, none⟩) l.length l.length) l.length (l.flatMap flP.c)) := hown
  clear ho hA hown
  go_enter Try.func57, Try.ntmps57
  go_wp2_with (go_at_call 40; fail)
  clear hW p0 p1 p2
  refine hse.mono ?_
  rintro e w2 ⟨⟨p, bo, rfl, hpos, hfo⟩, hb2⟩
  have HP : Hid (posP l pk = p) := posP_of hpos
  have hpl := hpos.1
  have HG2 : Hid (w.grownBy w2 (some g)) := by
    have h : Below w.heap.size w w2 := hb.trans (hb2.mono hb.size)
    exact ⟨h.os, h.tape, h.output, h.size, fun k hk _ => h.block k hk⟩
  have a2 := bstay HA.out hb2 (by omega)
  have c0 : w2.cell? ⟨w.heap.size, 0, none⟩ = some (.string pk) := bcell a2 rfl
  have c1 : w2.cell? ⟨w.heap.size, 1, none⟩ = some (.string pv) := bcell a2 rfl
  have c2 : w2.cell? ⟨w.heap.size, 2, none⟩ = some (.bool pg) := bcell a2 rfl
  have HO2 : Hid (w2.ownsRow B 40 3 (.slice (some ⟨g, 0, none⟩) l.length l.length) l.length (l.flatMap flP.c)) := HOW.out.kept (row := none) ⟨hb2.os, hb2.tape, hb2.output, hb2.size, fun k hk _ => hb2.block k hk⟩ (by simp [Value.ownBlock])
  have hs2 := hb2.size
  have HFO : Hid (bo = true ↔ ∃ a, l[p]? = some a ∧ cmpP a ⟨pk, pv, pg⟩ = 0) := hfo
  clear hse hpos hfo a2 HA HOW hb2
  cases bo with
  | true =>
    have HIS : Hid (isP l p pk = true) := isP_true.2 (HFO.out.1 rfl)
    have hpl2 : p < l.length := by
      obtain ⟨a, ha, _⟩ := isP_true.1 HIS.out
      exact (List.getElem?_eq_some_iff.1 ha).1
    have hp3 : (p : Int) < (l.length : Int) := by omega
    have HPUT := owns_put (pk := pk) (pv := pv) (pg := pg) HO2.out hpl2
    have HPT : Hid ((((w2.setCell ⟨g, p * 3, none⟩ (.string pk)).setCell ⟨g, p * 3 + 1, none⟩ (.string pv)).setCell ⟨g, p * 3 + 2, none⟩ (.bool pg)).ownsRow B 40 3 (.slice (some ⟨g, 0, none⟩) (l.set p ⟨pk, pv, pg⟩).length l.length) (l.set p ⟨pk, pv, pg⟩).length ((l.set p ⟨pk, pv, pg⟩).flatMap flP.c)) := HPUT
    obtain ⟨cur, hcur, hcs⟩ : ∃ cur, w2.heap[g]? = some (.cells cur 40 (0, 0)) ∧ cur.size = l.length * 3 := by
      obtain ⟨_, ⟨e, _⟩ | ⟨g', cap, cur, e, _, hg, _, _, hs, _⟩⟩ := HO2.out
      · cases e
      · cases e; exact ⟨cur, hg, hs⟩
    obtain ⟨z0, hz0⟩ : ∃ v, w2.cell? ⟨g, p * 3, none⟩ = some v := ⟨_, bcell hcur (Array.getElem?_eq_getElem (by omega))⟩
    obtain ⟨z1, hz1⟩ : ∃ v, w2.cell? ⟨g, p * 3 + 1, none⟩ = some v := ⟨_, bcell hcur (Array.getElem?_eq_getElem (by omega))⟩
    obtain ⟨z2, hz2⟩ : ∃ v, w2.cell? ⟨g, p * 3 + 2, none⟩ = some v := ⟨_, bcell hcur (Array.getElem?_eq_getElem (by omega))⟩
    have f0 := bfree hcur (p * 3)
    have f1 := bfree hcur (p * 3 + 1)
    have f2 := bfree hcur (p * 3 + 2)
    clear HPUT hcur
    go_wp2
    go_ret
    rw [setP_there HP.out HIS.out, List.length_set]
    refine ⟨g, l.length, rfl, by have := HPT.out; rw [List.length_set] at this; exact this, .inl rfl, ?_⟩
    exact ⟨HG2.out.os, HG2.out.tape, HG2.out.output, by simpa using HG2.out.size, fun k hk hne => (((Below.heap_setCell _ _ _ _ (fun e => hne (by rw [e]))).trans (Below.heap_setCell _ _ _ _ (fun e => hne (by rw [e])))).trans (Below.heap_setCell _ _ _ _ (fun e => hne (by rw [e])))).trans (HG2.out.block k hk hne)⟩
  | false =>
    have HIS : Hid (isP l p pk = false) := by
      cases h : isP l p pk with
      | false => rfl
      | true =>
        have := HFO.out.2 (isP_true.1 h)
        cases this
    have hins := insp.insert_pair l g p B pk pv pg w2.heap.size (w2.alloc (.cells #[.string pk, .string pv, .bool pg] 40)) hpl hl (by simp; omega) (HO2.out.alloc _) (bnew w2 _ _)
    go_wp2_with (go_at_call 71; fail)
    refine hins.mono ?_
    rintro e w3 ⟨g2, c2, rfl, hown3, hat3, hgr3⟩
    have HO3 : Hid (w3.ownsRow B 40 3 (.slice (some ⟨g2, 0, none⟩) (l.length + 1) c2) (l.length + 1) ((l.take p ++ ⟨pk, pv, pg⟩ :: l.drop p).flatMap flP.c)) := hown3
    have HG3 : Hid ((w2.alloc (.cells #[.string pk, .string pv, .bool pg] 40)).grownBy w3 (some g)) := hgr3
    have HAT : Hid (g2 = g ∨ w.heap.size ≤ g2) := by
      rcases hat3 with h | h
      · exact .inl h
      · rw [World.size_alloc] at h
        exact .inr (by omega)
    clear hins hown3 hgr3 hat3
    go_wp2
    go_ret
    have hlen : (setP l ⟨pk, pv, pg⟩).length = l.length + 1 := by rw [setP_new HP.out HIS.out]; simp; omega
    rw [hlen, setP_new HP.out HIS.out]
    refine ⟨g2, c2, rfl, HO3.out, HAT.out, ?_⟩
    have hs3 := HG3.out.size
    rw [World.size_alloc] at hs3
    exact ⟨HG3.out.os.trans HG2.out.os, HG3.out.tape.trans HG2.out.tape, HG3.out.output.trans HG2.out.output, by have := HG2.out.size; omega, fun k hk hne => ((HG3.out.block k (by simp; omega) hne).trans (Below.heap_alloc w2 _ k (by omega))).trans (HG2.out.block k hk hne)⟩
end Go.Proofs.Ytokaoafbgebelaa.psi

/- copyTable: the same table, its pairs and runs in rows of their own; new memory alone. -/
namespace Go.Proofs.Ytokaoafbgebelaa.cpt
open Go.ChangeShapes Go.WideShapes Go.ChangeAt Go.RowKit Go.Proofs.Ytokaoafbgebelaa.fl Go.Proofs.Ytokaoafbgebelaa.rn
set_option linter.unusedVariables false

/-- where the rows and the answer come to lie, and what the answer is built of -/
structure G where
  gy : Nat
  gr : Nat
  gn : Nat
  xy : Nat
  xr : Nat
def ws (s n m : Nat) (ya ra : Option Addr) (yc rc : Nat) (g : G) : List (Nat × Value) := [(6, .pointer (some ⟨s, 0, none⟩)), (7, .slice ya n yc), (8, .slice (some ⟨g.gy, 0, none⟩) n n), (9, .pointer (some ⟨s, 1, none⟩)), (10, .slice ra m rc), (11, .int .i64 m), (12, .slice (some ⟨g.gr, 0, none⟩) m m), (13, .agg #[.slice (some ⟨g.xy, 0, none⟩) n n, .slice (some ⟨g.xr, 0, none⟩) m m]), (3, .pointer (some ⟨g.gn, 0, none⟩))]
structure D (w : World) (ys : List flP.Pr) (rs : List Rn) (ya ra : Option Addr) (yc rc : Nat) (g : G) (b2 b6 b7 b8 b9 : Bool) (W : World) : Prop where
  bel : Below w.heap.size w W
  box : W.heap[w.heap.size]? = some (.cells #[.slice ya ys.length yc, .slice ra rs.length rc] 27 (0, 0))
  res : W.heap[w.heap.size + 1]? = some (.cells #[.slice none 0 0, .slice none 0 0] 27 (0, 0))
  row2 : b2 = true → Own flP.c 3 40 W g.gy ys ys.length ∧ w.heap.size + 2 ≤ g.gy
  row6 : b6 = true → OR W (w.heap.size + 2) g.gr rs.length [] ∧ w.heap.size + 2 ≤ g.gr
  at7 : b7 = true → b2 = true ∧ b6 = true ∧ g.xy = g.gy ∧ g.xr = g.gr
  at8 : b8 = true → W.heap[g.gn]? = some (.cells (if b9 then #[.slice (some ⟨g.xy, 0, none⟩) ys.length ys.length, .slice (some ⟨g.xr, 0, none⟩) rs.length rs.length] else #[.slice none 0 0, .slice none 0 0]) 27 (0, 0)) ∧ w.heap.size + 2 ≤ g.gn
  at9 : b9 = true → b7 = true ∧ b8 = true
def C (w : World) (ys : List flP.Pr) (rs : List Rn) (ya ra : Option Addr) (yc rc : Nat) (g : G) (L : Nat → Bool) (W : World) : Prop := D w ys rs ya ra yc rc g (L 2) (L 6) (L 7) (L 8) (L 9) W
section
variable {w : World} {ys : List flP.Pr} {rs : List Rn} {ya ra : Option Addr} {yc rc : Nat} {g : G} {b2 b6 b7 b8 b9 : Bool} {W W' : World}
theorem D.on (h : D w ys rs ya ra yc rc g b2 b6 b7 b8 b9 W) (hb : Below W.heap.size W W') : D w ys rs ya ra yc rc g b2 b6 b7 b8 b9 W' :=
  ⟨h.bel.trans (hb.mono h.bel.size), bstay h.box hb (Array.getElem?_eq_some_iff.1 h.box).1, bstay h.res hb (Array.getElem?_eq_some_iff.1 h.res).1, fun e => ⟨(h.row2 e).1.below hb (h.row2 e).1.lt, (h.row2 e).2⟩, fun e => ⟨(h.row6 e).1.on hb, (h.row6 e).2⟩, h.at7, fun e => ⟨bstay (h.at8 e).1 hb (Array.getElem?_eq_some_iff.1 (h.at8 e).1).1, (h.at8 e).2⟩, h.at9⟩
theorem D.size (h : D w ys rs ya ra yc rc g b2 b6 b7 b8 b9 W) : w.heap.size + 2 ≤ W.heap.size := (Array.getElem?_eq_some_iff.1 h.res).1
theorem no72 (h : D w ys rs ya ra yc rc g false b6 b7 b8 b9 W) : b7 = false := by
  cases b7 with
  | false => rfl
  | true => have := (h.at7 rfl).1; cases this
theorem no76 (h : D w ys rs ya ra yc rc g b2 false b7 b8 b9 W) : b7 = false := by
  cases b7 with
  | false => rfl
  | true => have := (h.at7 rfl).2.1; cases this
theorem no97 (h : D w ys rs ya ra yc rc g b2 b6 false b8 b9 W) : b9 = false := by
  cases b9 with
  | false => rfl
  | true => have := (h.at9 rfl).1; cases this
theorem no98 (h : D w ys rs ya ra yc rc g b2 b6 b7 false b9 W) : b9 = false := by
  cases b9 with
  | false => rfl
  | true => have := (h.at9 rfl).2; cases this
end
section
variable {w : World} {ys : List flP.Pr} {rs : List Rn} {ya ra : Option Addr} {yc rc : Nat} {act : Act} {Q : Exit → Act → World → Prop}
theorem more_off (L : Nat → Bool) {i j : Nat} (h : j ≠ i) : dn.more L i j = L j := by unfold dn.more; rw [if_neg h]
theorem quiet {i : Nat} {o : Oper} (hi : i < 2 ∨ i = 3 ∨ i = 4 ∨ i = 5) (hsel : ∀ cs b, o.op ≠ .select cs b) (v : Value) (hd : ∀ s d, o.dst = some d → (dk.sets act (ws w.heap.size ys.length rs.length ya ra yc rc s)).tmps[d]? = some v)
    (hrun : ∀ s W, W.heap[w.heap.size]? = some (.cells #[.slice ya ys.length yc, .slice ra rs.length rc] 27 (0, 0)) → (execOp (dk.sets act (ws w.heap.size ys.length rs.length ya ra yc rc s)).eval o).run Try.prog W = .ok (.value v) W) : gh.Step Try.prog (fun s => dk.sets act (ws w.heap.size ys.length rs.length ya ra yc rc s)) (C w ys rs ya ra yc rc) Q i o := by
  refine gh.step_val hsel fun s L W hdp h0 hC => ⟨s, v, gh.Agree.refl _ _, hd s, ?_⟩
  rw [hrun s W hC.box]
  refine ⟨rfl, ?_⟩
  unfold C
  rw [more_off L (show 2 ≠ i by omega), more_off L (show 6 ≠ i by omega), more_off L (show 7 ≠ i by omega), more_off L (show 8 ≠ i by omega), more_off L (show 9 ≠ i by omega)]
  exact hC
theorem st2 {o : Oper} (F : tb.Fit ys rs) (hY : Row flP.c 3 w w.heap.size ya ys) (hsz : 13 < act.tmps.size) (hsel : ∀ cs b, o.op ≠ .select cs b) (hdst : o.dst = some 8) (hrun : ∀ s W, (execOp (dk.sets act (ws w.heap.size ys.length rs.length ya ra yc rc s)).eval o).run Try.prog W = .ok (.enter 66 #[.slice ya ys.length yc]) W) : gh.Step Try.prog (fun s => dk.sets act (ws w.heap.size ys.length rs.length ya ra yc rc s)) (C w ys rs ya ra yc rc) Q 2 o := by
  refine gh.step_val hsel fun s L W hdp h0 hC => ⟨{ s with gy := W.heap.size }, .slice (some ⟨W.heap.size, 0, none⟩) ys.length ys.length, dk.agree_sets 2 8 _ hdst rfl rfl, (fun d hd => by rw [hdst] at hd; cases hd; exact dk.sets_on _ (by omega) _ rfl), ?_⟩
  rw [hrun s W]
  have hC : D w ys rs ya ra yc rc s (L 2) (L 6) (L 7) (L 8) (L 9) W := hC
  rw [h0] at hC
  refine (cpp.copy_pairs ys ya yc W F.yl F.yo (hY.inn hC.bel)).mono ?_
  rintro e w' ⟨rfl, ho, hb⟩
  refine ⟨rfl, ?_⟩
  show D w ys rs ya ra yc rc _ true (L 6) (L 7) (L 8) (L 9) _
  have h7 := no72 hC
  rw [h7] at hC
  have h9 := no97 hC
  rw [h9] at hC
  rw [h7, h9]
  have h1 := hC.on hb
  exact ⟨h1.bel, h1.box, h1.res, fun _ => ⟨ho, hC.size⟩, h1.row6, fun e => (by cases e), h1.at8, fun e => (by cases e)⟩
theorem make_R (W : World) (hl : rs.length ≤ 1048576) : (Instr.makeSlice 25 (.int .i64 (rs.length : Int)) (.int .i64 (rs.length : Int))).run Try.prog W = .ok (.slice (some ⟨W.heap.size, 0, none⟩) rs.length rs.length) (W.alloc (.cells (madeCells #[.slice none 0 0] (rs.length * 1)) 24)) := by
  obtain ⟨i0, hi, hz0, hz1, hz2⟩ := ly.infoR
  have hmk := run_makeSlice (P := Try.prog) W 25 24 i0 _ Try.underlying25 hi hz0 .i64 .i64 (rs.length : Int) (rs.length : Int) (by omega) (Int.le_refl _) (by rw [hz1]; simp; omega) (by rw [hz2]; omega) (by omega)
  rw [hz1, show ((rs.length : Int)).toNat = rs.length by omega] at hmk
  exact hmk
theorem made_R (W : World) (B : Nat) : OR (W.alloc (.cells (madeCells #[.slice none 0 0] (rs.length * 1)) 24)) B W.heap.size rs.length [] := ⟨⟨_, bnew W _ _, by rw [size_madeCells, Nat.mul_one], fun i r hr => by simp at hr⟩, fun i r hr => by simp at hr, fun i j r s _ hr => by simp at hr⟩
theorem st6 {o : Oper} (F : tb.Fit ys rs) (hsz : 13 < act.tmps.size) (hop : o.op = .makeSlice 25 (.tmp 11) (.tmp 11)) (hdst : o.dst = some 12) : gh.Step Try.prog (fun s => dk.sets act (ws w.heap.size ys.length rs.length ya ra yc rc s)) (C w ys rs ya ra yc rc) Q 6 o := by
  refine gh.step_val (by rw [hop]; simp) fun s L W hdp h0 hC => ⟨{ s with gr := W.heap.size }, .slice (some ⟨W.heap.size, 0, none⟩) rs.length rs.length, dk.agree_sets 6 12 _ hdst rfl rfl, (fun d hd => by rw [hdst] at hd; cases hd; exact dk.sets_on _ (by omega) _ rfl), ?_⟩
  have e11 : (dk.sets act (ws w.heap.size ys.length rs.length ya ra yc rc s)).tmps[11]? = some (.int .i64 rs.length) := dk.sets_on _ (by omega) _ rfl
  have hm := make_R (rs := rs) W F.rl
  have hrun : (execOp (dk.sets act (ws w.heap.size ys.length rs.length ya ra yc rc s)).eval o).run Try.prog W = .ok (.value (.slice (some ⟨W.heap.size, 0, none⟩) rs.length rs.length)) (W.alloc (.cells (madeCells #[.slice none 0 0] (rs.length * 1)) 24)) := by
    simp [execOp, hop, Act.eval, e11, hm, Result.andThen]
  rw [hrun]
  refine ⟨rfl, ?_⟩
  have hC : D w ys rs ya ra yc rc s (L 2) (L 6) (L 7) (L 8) (L 9) W := hC
  rw [h0] at hC
  show D w ys rs ya ra yc rc _ (L 2) true (L 7) (L 8) (L 9) _
  have h7 := no76 hC
  rw [h7] at hC
  have h9 := no97 hC
  rw [h9] at hC
  rw [h7, h9]
  have h1 := hC.on ((Below.refl _ _).alloc (Nat.le_refl _) (.cells (madeCells #[.slice none 0 0] (rs.length * 1)) 24))
  exact ⟨h1.bel, h1.box, h1.res, h1.row2, fun _ => ⟨made_R W _, hC.size⟩, fun e => (by cases e), h1.at8, fun e => (by cases e)⟩
theorem st7 {o : Oper} (hsz : 13 < act.tmps.size) (hop : o.op = .build 27 #[(0, .tmp 8), (1, .tmp 12)]) (hdst : o.dst = some 13) (hd2 : ∃ e ∈ o.after, Region.binds .any e = true ∧ e.on = 2) (hd6 : ∃ e ∈ o.after, Region.binds .any e = true ∧ e.on = 6) : gh.Step Try.prog (fun s => dk.sets act (ws w.heap.size ys.length rs.length ya ra yc rc s)) (C w ys rs ya ra yc rc) Q 7 o := by
  refine gh.step_val (by rw [hop]; simp) fun s L W hdp h0 hC => ⟨{ s with xy := s.gy, xr := s.gr }, .agg #[.slice (some ⟨s.gy, 0, none⟩) ys.length ys.length, .slice (some ⟨s.gr, 0, none⟩) rs.length rs.length], dk.agree_sets 7 13 _ hdst rfl rfl, (fun d hd => by rw [hdst] at hd; cases hd; exact dk.sets_on _ (by omega) _ rfl), ?_⟩
  obtain ⟨x2, m2, y2, z2⟩ := hd2
  have l2 := hdp x2 m2 y2
  rw [z2] at l2
  obtain ⟨x6, m6, y6, z6⟩ := hd6
  have l6 := hdp x6 m6 y6
  rw [z6] at l6
  have e8 : (dk.sets act (ws w.heap.size ys.length rs.length ya ra yc rc s)).tmps[8]? = some (.slice (some ⟨s.gy, 0, none⟩) ys.length ys.length) := dk.sets_on _ (by omega) _ rfl
  have e12 : (dk.sets act (ws w.heap.size ys.length rs.length ya ra yc rc s)).tmps[12]? = some (.slice (some ⟨s.gr, 0, none⟩) rs.length rs.length) := dk.sets_on _ (by omega) _ rfl
  have hrun : (execOp (dk.sets act (ws w.heap.size ys.length rs.length ya ra yc rc s)).eval o).run Try.prog W = .ok (.value (.agg #[.slice (some ⟨s.gy, 0, none⟩) ys.length ys.length, .slice (some ⟨s.gr, 0, none⟩) rs.length rs.length])) W := by
    simp [execOp, hop, e8, e12, go_sem]
  rw [hrun]
  refine ⟨rfl, ?_⟩
  have hC : D w ys rs ya ra yc rc s (L 2) (L 6) (L 7) (L 8) (L 9) W := hC
  rw [h0] at hC
  show D w ys rs ya ra yc rc _ (L 2) (L 6) true (L 8) (L 9) _
  have h9 := no97 hC
  rw [h9] at hC ⊢
  exact ⟨hC.bel, hC.box, hC.res, hC.row2, hC.row6, fun _ => ⟨l2, l6, rfl, rfl⟩, hC.at8, fun e => (by cases e)⟩
theorem st8 {o : Oper} (hsz : 13 < act.tmps.size) (hop : o.op = .alloc 27) (hdst : o.dst = some 3) (hrun : ∀ s W, (execOp (dk.sets act (ws w.heap.size ys.length rs.length ya ra yc rc s)).eval o).run Try.prog W = .ok (.value (.pointer (some ⟨W.heap.size, 0, none⟩))) (W.alloc (.cells #[.slice none 0 0, .slice none 0 0] 27))) : gh.Step Try.prog (fun s => dk.sets act (ws w.heap.size ys.length rs.length ya ra yc rc s)) (C w ys rs ya ra yc rc) Q 8 o := by
  refine gh.step_val (by rw [hop]; simp) fun s L W hdp h0 hC => ⟨{ s with gn := W.heap.size }, .pointer (some ⟨W.heap.size, 0, none⟩), dk.agree_sets 8 3 _ hdst rfl rfl, (fun d hd => by rw [hdst] at hd; cases hd; exact dk.sets_on _ (by omega) _ rfl), ?_⟩
  rw [hrun]
  refine ⟨rfl, ?_⟩
  have hC : D w ys rs ya ra yc rc s (L 2) (L 6) (L 7) (L 8) (L 9) W := hC
  rw [h0] at hC
  show D w ys rs ya ra yc rc _ (L 2) (L 6) (L 7) true (L 9) _
  have h9 := no98 hC
  rw [h9] at hC ⊢
  have h1 := hC.on ((Below.refl _ _).alloc (Nat.le_refl _) (.cells #[.slice none 0 0, .slice none 0 0] 27))
  exact ⟨h1.bel, h1.box, h1.res, h1.row2, h1.row6, h1.at7, fun _ => ⟨bnew W _ _, hC.size⟩, fun e => (by cases e)⟩
theorem st9 {o : Oper} (hsz : 13 < act.tmps.size) (hop : o.op = .store 27 (.tmp 3) (.tmp 13)) (hdst : o.dst = none) (hd7 : ∃ e ∈ o.after, Region.binds .any e = true ∧ e.on = 7) (hd8 : ∃ e ∈ o.after, Region.binds .any e = true ∧ e.on = 8) : gh.Step Try.prog (fun s => dk.sets act (ws w.heap.size ys.length rs.length ya ra yc rc s)) (C w ys rs ya ra yc rc) Q 9 o := by
  refine gh.step_val (by rw [hop]; simp) fun s L W hdp h0 hC => ⟨s, undef, gh.Agree.refl _ _, (fun d hd => by rw [hdst] at hd; cases hd), ?_⟩
  obtain ⟨x7, m7, y7, z7⟩ := hd7
  have l7 := hdp x7 m7 y7
  rw [z7] at l7
  obtain ⟨x8, m8, y8, z8⟩ := hd8
  have l8 := hdp x8 m8 y8
  rw [z8] at l8
  have hC : D w ys rs ya ra yc rc s (L 2) (L 6) (L 7) (L 8) (L 9) W := hC
  rw [h0] at hC
  obtain ⟨l2, l6, hxy, hxr⟩ := hC.at7 l7
  obtain ⟨hb8, hg8⟩ := hC.at8 l8
  have e3 : (dk.sets act (ws w.heap.size ys.length rs.length ya ra yc rc s)).tmps[3]? = some (.pointer (some ⟨s.gn, 0, none⟩)) := dk.sets_on _ (by omega) _ rfl
  have e13 : (dk.sets act (ws w.heap.size ys.length rs.length ya ra yc rc s)).tmps[13]? = some (.agg #[.slice (some ⟨s.xy, 0, none⟩) ys.length ys.length, .slice (some ⟨s.xr, 0, none⟩) rs.length rs.length]) := dk.sets_on _ (by omega) _ rfl
  have c0 : W.cell? ⟨s.gn, 0, none⟩ = some (.slice none 0 0) := bcell hb8 rfl
  have c1 : W.cell? ⟨s.gn, 1, none⟩ = some (.slice none 0 0) := bcell hb8 rfl
  have f0 := bfree hb8 0
  have f1 := bfree hb8 1
  have hrun : (execOp (dk.sets act (ws w.heap.size ys.length rs.length ya ra yc rc s)).eval o).run Try.prog W = .ok .skip ((W.setCell ⟨s.gn, 0, none⟩ (.slice (some ⟨s.xy, 0, none⟩) ys.length ys.length)).setCell ⟨s.gn, 1, none⟩ (.slice (some ⟨s.xr, 0, none⟩) rs.length rs.length)) := by
    simp [execOp, hop, e3, e13, go_sem, c0, c1, f0, f1]
  rw [hrun]
  refine ⟨rfl, ?_⟩
  show D w ys rs ya ra yc rc _ (L 2) (L 6) (L 7) (L 8) true _
  have hny : s.gy ≠ s.gn := own_ne (by decide) (hC.row2 l2).1 hb8
  have hnr : s.gr ≠ s.gn := by
    rintro e
    obtain ⟨cur, hcur, _⟩ := (hC.row6 l6).1.blk
    rw [e, hb8] at hcur
    simp at hcur
  refine ⟨(hC.bel.setCell (by show w.heap.size ≤ s.gn; omega) _).setCell (by show w.heap.size ≤ s.gn; omega) _, boff (boff hC.box _ _ _ (by omega)) _ _ _ (by omega), boff (boff hC.res _ _ _ (by omega)) _ _ _ (by omega), fun e => ⟨((hC.row2 e).1.kept (Below.heap_setCell _ _ _ _ hny)).kept (Below.heap_setCell _ _ _ _ hny), (hC.row2 e).2⟩, fun e => ⟨?_, (hC.row6 e).2⟩, hC.at7, fun _ => ⟨bset (bset hb8 0 _) 1 _, hg8⟩, fun _ => ⟨l7, l8⟩⟩
  obtain ⟨cur, h1, h2⟩ := (hC.row6 e).1.blk
  exact ⟨⟨cur, boff (boff h1 _ _ _ hnr) _ _ _ hnr, h2⟩, fun i r hr => by simp at hr, fun i j r s _ hr => by simp at hr⟩
end
/-- what stands in the loop: the first k runs are laid -/
structure I (w : World) (ys : List flP.Pr) (rs : List Rn) (ya ra : Option Addr) (yc rc : Nat) (gy gr gn k : Nat) (ks : List Rn) (W : World) : Prop where
  bel : Below w.heap.size w W
  box : W.heap[w.heap.size]? = some (.cells #[.slice ya ys.length yc, .slice ra rs.length rc] 27 (0, 0))
  res : W.heap[w.heap.size + 1]? = some (.cells #[.slice none 0 0, .slice none 0 0] 27 (0, 0))
  gnb : W.heap[gn]? = some (.cells #[.slice (some ⟨gy, 0, none⟩) ys.length ys.length, .slice (some ⟨gr, 0, none⟩) rs.length rs.length] 27 (0, 0))
  own : Own flP.c 3 40 W gy ys ys.length
  orr : OR W (w.heap.size + 2) gr rs.length ks
  map : ks.map (·.l) = (rs.take k).map (·.l)
  ne : ∀ (i : Nat) r, ks[i]? = some r → r.a ≠ some ⟨gy, 0, none⟩
  hy : w.heap.size + 2 ≤ gy
  hr : w.heap.size + 2 ≤ gr
  hn : w.heap.size + 2 ≤ gn
section
variable {w : World} {ys : List flP.Pr} {rs : List Rn} {ya ra : Option Addr} {yc rc : Nat} {gy gr gn k : Nat} {ks : List Rn} {W W' : World}
theorem I.on (h : I w ys rs ya ra yc rc gy gr gn k ks W) (hb : Below W.heap.size W W') : I w ys rs ya ra yc rc gy gr gn k ks W' :=
  ⟨h.bel.trans (hb.mono h.bel.size), bstay h.box hb (Array.getElem?_eq_some_iff.1 h.box).1, bstay h.res hb (Array.getElem?_eq_some_iff.1 h.res).1, bstay h.gnb hb (Array.getElem?_eq_some_iff.1 h.gnb).1, h.own.below hb h.own.lt, h.orr.on hb, h.map, h.ne, h.hy, h.hr, h.hn⟩
theorem I.gr_ne (h : I w ys rs ya ra yc rc gy gr gn k ks W) : gr ≠ gn ∧ gr ≠ gy ∧ gr < W.heap.size := by
  obtain ⟨cur, hc, _⟩ := h.orr.blk
  refine ⟨?_, ?_, (Array.getElem?_eq_some_iff.1 hc).1⟩
  · rintro rfl
    rw [h.gnb] at hc
    simp at hc
  · rintro rfl
    exact own_ne (by decide) h.own hc rfl
/-- one run more -/
theorem I.more {r : Rn} {W0 : World} (h0 : I w ys rs ya ra yc rc gy gr gn k ks W0) (hb : Below W0.heap.size W0 W) (hk : rs[k]? = some r) (ho : Own flP.c 3 40 W W0.heap.size r.l r.l.length) : I w ys rs ya ra yc rc gy gr gn (k + 1) (ks ++ [⟨some ⟨W0.heap.size, 0, none⟩, r.l.length, r.l⟩]) (W.setCell ⟨gr, k, none⟩ (.slice (some ⟨W0.heap.size, 0, none⟩) r.l.length r.l.length)) := by
  have h := h0.on hb
  obtain ⟨n1, n2, _⟩ := h.gr_ne
  have hlen : ks.length = k := by have h1 := congrArg List.length h.map; have := (List.getElem?_eq_some_iff.1 hk).1; simp at h1; omega
  have hsz : w.heap.size + 2 ≤ W0.heap.size := (Array.getElem?_eq_some_iff.1 h0.res).1
  have hyl := h0.own.lt
  have hr := h.hr
  have hmore := h.orr.more ho hsz (fun i r2 k2 hr2 ha => by
    obtain ⟨h3, e1, _, _, e4⟩ := h0.orr.own i r2 hr2
    rw [e1] at ha
    have := Addr.mk.inj (Option.some.inj ha)
    have := e4.lt
    omega) (by rw [hlen]; exact (List.getElem?_eq_some_iff.1 hk).1)
  rw [hlen] at hmore
  refine ⟨h.bel.setCell (by show w.heap.size ≤ gr; omega) _, boff h.box _ _ _ (by omega), boff h.res _ _ _ (by omega), boff h.gnb _ _ _ (Ne.symm n1), h.own.kept (Below.heap_setCell _ _ _ _ (Ne.symm n2)), hmore, ?_, fun i r2 hr2 => ?_, h.hy, h.hr, h.hn⟩
  · rw [List.map_append, h.map, List.take_add_one, hk]
    simp
  · by_cases e : i < ks.length
    · rw [List.getElem?_append_left e] at hr2
      exact h.ne i r2 hr2
    · have hlt := (List.getElem?_eq_some_iff.1 hr2).1
      rw [List.length_append, List.length_singleton] at hlt
      obtain rfl : i = ks.length := by omega
      rw [List.getElem?_append_right (Nat.le_refl _)] at hr2
      simp at hr2
      subst hr2
      intro e2
      have := Addr.mk.inj (Option.some.inj e2)
      omega
end

set_option maxRecDepth 100000 in
set_option maxHeartbeats 2000000 in
theorem copy_table (ys : List flP.Pr) (rs : List Rn) (ya ra : Option Addr) (yc rc : Nat) (w : World) (F : tb.Fit ys rs) (hY : Row flP.c 3 w w.heap.size ya ys) (hR : VR w w.heap.size ra rs) :
    Calls Try.prog 43 #[.agg #[.slice ya ys.length yc, .slice ra rs.length rc]] w fun e w' => ∃ g h ks, e = .returned (.agg #[.slice (some ⟨g, 0, none⟩) ys.length ys.length, .slice (some ⟨h, 0, none⟩) rs.length rs.length]) ∧ ks.map (·.l) = rs.map (·.l) ∧ w.heap.size + 2 ≤ g ∧ w.heap.size + 2 ≤ h ∧
      Own flP.c 3 40 w' g ys ys.length ∧ OR w' (w.heap.size + 2) h rs.length ks ∧ (∀ (i : Nat) r, ks[i]? = some r → r.a ≠ some ⟨g, 0, none⟩) ∧ Below w.heap.size w w' := by
  have h0 : D w ys rs ya ra yc rc ⟨0, 0, 0, 0, 0⟩ false false false false false ((w.alloc (.cells #[.slice ya ys.length yc, .slice ra rs.length rc] 27)).alloc (.cells #[.slice none 0 0, .slice none 0 0] 27)).drew := by
    refine ⟨(((Below.refl _ _).alloc (Nat.le_refl _) _).alloc (by simp) _).drew, bold (bnew w _ _) _, ?_, by simp, by simp, by simp, by simp, by simp⟩
    have := bnew (w.alloc (.cells #[.slice ya ys.length yc, .slice ra rs.length rc] 27)) #[.slice none 0 0, .slice none 0 0] 27
    rw [World.size_alloc] at this
    exact this
  have HY : Hid (Row flP.c 3 w w.heap.size ya ys) := hY
  have HR : Hid (VR w w.heap.size ra rs) := hR
  have HF : Hid (tb.Fit ys rs) := F
  have hrl := F.rl
  clear hY hR F
  go_enter Try.func43, Try.ntmps43
  go_wp2
  refine dk.region_gsets (ws w.heap.size ys.length rs.length ya ra yc rc) [6, 7, 8, 9, 10, 11, 12, 13, 3] (C w ys rs ya ra yc rc) ⟨0, 0, 0, 0, 0⟩ (by kernel_rfl) (by kernel_rfl) (fun _ => rfl) (by kernel_rfl) h0 ?each ?fin
  case each =>
    refine ⟨quiet (by decide) (by simp) (.pointer (some ⟨w.heap.size, 0, none⟩)) (by rintro s _ ⟨⟩; exact dk.sets_on _ (by simp) _ rfl) (fun s W h => by simp [execOp, go_sem, Act.eval, dk.sets_get, ws, List.lookup]), ?_⟩
    refine ⟨quiet (by decide) (by simp) (.slice ya ys.length yc) (by rintro s _ ⟨⟩; exact dk.sets_on _ (by simp) _ rfl) (fun s W h => by have c : W.cell? ⟨w.heap.size, 0, none⟩ = some (.slice ya ys.length yc) := bcell h rfl; simp [execOp, go_sem, Act.eval, dk.sets_get, ws, List.lookup, c]), ?_⟩
    refine ⟨st2 HF.out HY.out (by simp) (by simp) rfl (fun s W => by simp [go_sem, Act.eval, dk.sets_get, ws, List.lookup]), ?_⟩
    refine ⟨quiet (by decide) (by simp) (.pointer (some ⟨w.heap.size, 1, none⟩)) (by rintro s _ ⟨⟩; exact dk.sets_on _ (by simp) _ rfl) (fun s W h => by simp [execOp, go_sem, Act.eval, dk.sets_get, ws, List.lookup]), ?_⟩
    refine ⟨quiet (by decide) (by simp) (.slice ra rs.length rc) (by rintro s _ ⟨⟩; exact dk.sets_on _ (by simp) _ rfl) (fun s W h => by have c : W.cell? ⟨w.heap.size, 1, none⟩ = some (.slice ra rs.length rc) := bcell h rfl; simp [execOp, go_sem, Act.eval, dk.sets_get, ws, List.lookup, c]), ?_⟩
    refine ⟨quiet (by decide) (by simp) (.int .i64 rs.length) (by rintro s _ ⟨⟩; exact dk.sets_on _ (by simp) _ rfl) (fun s W h => by simp [go_sem, Act.eval, dk.sets_get, ws, List.lookup]), ?_⟩
    exact ⟨st6 HF.out (by simp) rfl rfl, st7 (by simp) rfl rfl ⟨⟨2, .data⟩, by simp, rfl, rfl⟩ ⟨⟨6, .data⟩, by simp, rfl, rfl⟩, st8 (by simp) rfl rfl (fun s W => by simp [execOp, go_sem]), st9 (by simp) rfl rfl ⟨⟨7, .data⟩, by simp, rfl, rfl⟩ ⟨⟨8, .data⟩, by simp, rfl, rfl⟩, trivial⟩
  case fin =>
    intro g L W hL hC
    have hD : D w ys rs ya ra yc rc g true true true true true W := by
      have h : D w ys rs ya ra yc rc g (L 2) (L 6) (L 7) (L 8) (L 9) W := hC
      rw [hL 2 (by decide), hL 6 (by decide), hL 7 (by decide), hL 8 (by decide), hL 9 (by decide)] at h
      exact h
    obtain ⟨_, _, hxy, hxr⟩ := hD.at7 rfl
    obtain ⟨hb8, hg8⟩ := hD.at8 rfl
    obtain ⟨gy, gr, gn, xy, xr⟩ := g
    simp only at hxy hxr
    have hxy' := hxy.symm
    have hxr' := hxr.symm
    subst hxy' hxr'
    have hI : I w ys rs ya ra yc rc gy gr gn 0 [] W := ⟨hD.bel, hD.box, hD.res, hb8, (hD.row2 rfl).1, (hD.row6 rfl).1, by simp, fun i r hr => by simp at hr, (hD.row2 rfl).2, (hD.row6 rfl).2, hg8⟩
    have HI : Hid (I w ys rs ya ra yc rc gy gr gn 0 [] W) := hI
    have x1 : W.cell? ⟨w.heap.size, 1, none⟩ = some (.slice ra rs.length rc) := bcell hI.box rfl
    simp only [dk.sets, ws]
    clear hD hC hL h0 hb8 hg8 hI
    go_wp2
    go_loopw [4, 5, 17] (fun _ _ x wr => ∃ (k : Nat) (ks : List Rn), k ≤ rs.length ∧ x = .int .i64 k ∧ Hid (I w ys rs ya ra yc rc gy gr gn k ks wr)) (fun _ _ x _ => rs.length - (intOf x).toNat)
    case atStart => exact ⟨0, [], Nat.zero_le _, rfl, HI⟩
    case round =>
      obtain ⟨k, ks, hk, rfl, hinv⟩ := hrel
      clear HI x1
      by_cases hkl : k < rs.length
      · have hvr := HR.out.inn hinv.out.bel
        rcases hvr.1 with h0 | ⟨b, off, hra, hlt, hc⟩
        · rw [h0] at hkl; simp at hkl
        subst hra
        have HG : Hid (rs[k]? = some rs[k]) := List.getElem?_eq_getElem hkl
        have hrow := hvr.2 rs[k] (List.getElem_mem hkl)
        have hfr := HF.out.ro rs[k] (List.getElem_mem hkl)
        obtain ⟨⟨qa, qc, ql⟩, he⟩ : ∃ e, rs[k] = e := ⟨_, rfl⟩
        rw [he] at HG hrow hfr
        have c0 : wr.cell? ⟨b, off + k, none⟩ = some (.slice qa ql.length qc) := by have := hc k _ HG.out 0 _ rfl; simpa using this
        have n1 : wr.cell? ⟨gn, 1, none⟩ = some (.slice (some ⟨gr, 0, none⟩) rs.length rs.length) := bcell hinv.out.gnb rfl
        have hone := cpp.copy_pairs ql qa qc wr.drew hfr.1 hfr.2 (hrow.inn (Below.refl _ _).drew)
        have i2 : (k : Int) < (rs.length : Int) := by omega
        clear hvr hc he hrow hfr
        go_wp2
        go_region_with (go_at_call 66; refine hone.mono ?_; rintro e w1 ⟨rfl, ho1, hb1⟩; have hb1' : Below wr.heap.size wr w1 := (Below.refl _ _).drew.trans hb1; have hm := hinv.out.more hb1' HG.out ho1; have n2 : w1.cell? ⟨gn, 1, none⟩ = some (.slice (some ⟨gr, 0, none⟩) rs.length rs.length) := bcell (hinv.out.on hb1').gnb rfl; obtain ⟨cur, a1, a2, _⟩ := (hinv.out.on hb1').orr.blk; have g0 : ∃ v, w1.cell? ⟨gr, k, none⟩ = some v := ⟨_, bcell a1 (Array.getElem?_eq_getElem (by omega))⟩; obtain ⟨v0, g0⟩ := g0; have z0 := bfree a1 k; have HN : Hid (I w ys rs ya (some ⟨b, off, none⟩) yc rc gy gr gn (k + 1) (ks ++ [⟨some ⟨wr.heap.size, 0, none⟩, ql.length, ql⟩]) (w1.setCell ⟨gr, k, none⟩ (.slice (some ⟨wr.heap.size, 0, none⟩) ql.length ql.length))) := hm; clear hm a1 a2 ho1)
        all_goals go_wp2
        all_goals go_roundw
        all_goals first | exact ⟨k + 1, _, by omega, by go_num, HN⟩ | (simp [intOf]; omega)
      · obtain rfl : k = rs.length := by omega
        have u0 : wr.cell? ⟨gn, 0, none⟩ = some (.slice (some ⟨gy, 0, none⟩) ys.length ys.length) := bcell hinv.out.gnb rfl
        have u1 : wr.cell? ⟨gn, 1, none⟩ = some (.slice (some ⟨gr, 0, none⟩) rs.length rs.length) := bcell hinv.out.gnb rfl
        have r0 : wr.cell? ⟨w.heap.size + 1, 0, none⟩ = some (.slice none 0 0) := bcell hinv.out.res rfl
        have r1 : wr.cell? ⟨w.heap.size + 1, 1, none⟩ = some (.slice none 0 0) := bcell hinv.out.res rfl
        have f0 := bfree hinv.out.res 0
        have f1 := bfree hinv.out.res 1
        have hy2 := hinv.out.hy
        have hr2 := hinv.out.hr
        clear hkl hk
        go_wp2
        refine bodyPost_ret (v := .agg #[.slice (some ⟨gy, 0, none⟩) ys.length ys.length, .slice (some ⟨gr, 0, none⟩) rs.length rs.length]) (by simp [results, Try.results43, go_sem, r0, r1]) rfl ⟨gy, gr, ks, rfl, by rw [hinv.out.map, List.take_length], hy2, hr2, ?_, ?_, hinv.out.ne, ?_⟩
        · exact (hinv.out.own.kept (Below.heap_setCell _ _ _ _ (show gy ≠ w.heap.size + 1 by omega))).kept (Below.heap_setCell _ _ _ _ (show gy ≠ w.heap.size + 1 by omega))
        · exact (hinv.out.orr.set (show w.heap.size + 1 < w.heap.size + 2 by omega) (by omega) _ _).set (show w.heap.size + 1 < w.heap.size + 2 by omega) (by omega) _ _
        · exact (hinv.out.bel.setCell (Nat.le_succ _) _).setCell (Nat.le_succ _) _
end Go.Proofs.Ytokaoafbgebelaa.cpt
