/- Tables, without memory: what is scanned is what is got; what a pair that is put changes. -/
import Derived.Test.YtoemkbooomgieaaGreatDoorDw01
import Derived.Test.YtoemkbooomgieaaGreatDoorRunLib
import Derived.Test.YtoemkbooomgieaaGreatDoorFlatOwn
import Derived.Deep.DeepAppendWide
import Derived.Laws.CopyOwn
import Derived.Maps.AppendAt
import Derived.Test.YtoemkbooomgieaaGreatDoorDw04
import Derived.Test.YtoemkbooomgieaaGreatDoorDw08
import Derived.Test.YtoemkbooomgieaaGreatDoorDw02
import Derived.Test.YtoemkbooomgieaaGreatDoorDw09
import Derived.Test.YtoemkbooomgieaaGreatDoorDw03

/- slices.Insert of one pair into a row of pairs that has no room: the same row with it in its place, in a row of its own. -/
namespace Go.Proofs.YtoemkbooomgieaaGreatDoor.insp
open Go.ChangeShapes Go.WideShapes Go.ChangeAt Go.RowKit Go.Proofs.YtoemkbooomgieaaGreatDoor.rn Go.Proofs.YtoemkbooomgieaaGreatDoor.fl
set_option linter.unusedVariables false

theorem infoX : ∃ i0, Tryz.prog.info? 61 = some i0 ∧ i0.zero = some (.agg #[.string ByteArray.empty, .string ByteArray.empty, .bool false]) ∧ i0.size = 3 ∧ i0.bytes = 40 := by
  have h : (Tryz.prog.info? 61).map (fun i => (i.zero, i.size, i.bytes)) = some (some (.agg #[.string ByteArray.empty, .string ByteArray.empty, .bool false]), 3, 40) := by kernel_rfl
  cases hh : Tryz.prog.info? 61 with
  | none => rw [hh] at h; cases h
  | some i => rw [hh] at h; simp at h; exact ⟨i, rfl, h.1, h.2.1, h.2.2⟩
theorem own_form {w : World} {B n : Nat} {U : TypeId} {s : Nat} {v : Value} {xs : List Value} (h : w.ownsRow B U s v (n + 1) xs) : ∃ g cap, v = .slice (some ⟨g, 0, none⟩) (n + 1) cap := by
  obtain ⟨_, ⟨rfl, h0⟩ | ⟨g, cap, cur, rfl, _⟩⟩ := h
  · omega
  · exact ⟨g, cap, rfl⟩
theorem owns_at {w : World} {B n s g c : Nat} {U : TypeId} {xs : List Value} (h : w.ownsRow B U s (.slice (some ⟨g, 0, none⟩) n c) n xs) : B ≤ g ∧ ∃ cur, w.heap[g]? = some (.cells cur U (0, 0)) := by
  obtain ⟨_, ⟨h1, _⟩ | ⟨g', cap', cur, h1, h2, h3, _⟩⟩ := h
  · cases h1
  cases h1
  exact ⟨h2, cur, h3⟩
theorem add_at (g o j : Nat) : (⟨g, o, none⟩ : Addr).add j = ⟨g, o + j, none⟩ := by unfold Addr.add; split <;> simp_all
theorem oneX (ms : List flP.Pr) : ∀ u ∈ ms.flatMap flP.c, u.oneCell' = true := fun u hu => by
  obtain ⟨e, _, he⟩ := List.mem_flatMap.1 hu
  simp [flP.c] at he
  rcases he with rfl | rfl | rfl <;> rfl
/-- the cells of an owned row -/
theorem owns_cells {α : Type} {c : α → List Value} {n B g cap : Nat} {U : TypeId} {l : List α} {w : World} (hn : ∀ e, (c e).length = n) (h : w.ownsRow B U n (.slice (some ⟨g, 0, none⟩) l.length cap) l.length (l.flatMap c)) : ∀ (j : Nat) (u : Value), (l.flatMap c)[j]? = some u → w.cell? ⟨g, j, none⟩ = some u := fun j u hu => by
  obtain ⟨_, ⟨h1, _⟩ | ⟨g', cap', cur, h1, h2, h3, h4, h5, h6, h7⟩⟩ := h
  · cases h1
  cases h1
  rw [← h7] at hu
  have hlt := (List.getElem?_eq_some_iff.1 hu).1
  rw [List.length_take] at hlt
  rw [List.getElem?_take_of_lt (by omega)] at hu
  exact bcell h3 (by simpa using hu)
theorem flat_take {α : Type} {c : α → List Value} (l : List α) (i : Nat) : (l.take i).flatMap c ++ (l.drop i).flatMap c = l.flatMap c := by rw [← List.flatMap_append, List.take_append_drop]
/-- two copies into a row: what was ahead, what is put in, what stood from there on -/
theorem two_copies {xs v cs rest : List Value} {o1 o2 : Nat} (h1 : xs.length = o1) (h2 : o1 + v.length = o2) (hr : v.length + cs.length ≤ rest.length) :
    (((xs ++ rest).take o1 ++ v ++ (xs ++ rest).drop (o1 + v.length)).take o2 ++ cs ++ ((xs ++ rest).take o1 ++ v ++ (xs ++ rest).drop (o1 + v.length)).drop (o2 + cs.length)) = xs ++ v ++ cs ++ rest.drop (v.length + cs.length) := by
  subst h1
  subst h2
  rw [List.take_left, List.drop_append, List.drop_eq_nil_of_le (by omega), List.nil_append, show xs.length + v.length - xs.length = v.length by omega]
  have e1 : (xs ++ v).length = xs.length + v.length := List.length_append
  rw [← e1, List.take_left, List.drop_append, List.drop_eq_nil_of_le (by omega), List.nil_append, List.drop_drop]
  congr 2
  omega
/-- the row behind it is owned -/
theorem owns_new {B g cap n : Nat} {U : TypeId} {w : World} {cur : Array Value} {ys tl : List Value} (hg : w.heap[g]? = some (.cells cur U (0, 0))) (hB : B ≤ g) (hc : cur.toList = ys ++ tl) (hy : ys.length = n * 3) (hn : n ≤ cap) (hm : cap ≤ maxLen) (hs : cur.size = cap * 3) : w.ownsRow B U 3 (.slice (some ⟨g, 0, none⟩) n cap) n ys :=
  ⟨hy, .inr ⟨g, cap, cur, rfl, hB, hg, hn, hm, hs, by rw [hc, ← hy, List.take_left]⟩⟩

def ws (b g i n G : Nat) : List (Nat × Value) := [(46, .slice (some ⟨b, 0, none⟩) (n + 1) G), (47, .int .i64 i), (48, .int .i64 1), (49, .int .i64 ((i : Int) + 1)), (50, .slice (some ⟨b, (i + 1) * 3, none⟩) (n - i) (G - (i + 1))), (51, .slice (some ⟨g, 0, none⟩) n n), (52, .int .i64 i), (53, .slice (some ⟨g, i * 3, none⟩) (n - i) (n - i)), (54, .int .i64 ((n - i : Nat) : Int))]

set_option maxRecDepth 100000 in
set_option maxHeartbeats 4000000 in
theorem insert_mid (l : List flP.Pr) (g i B : Nat) (bx bk : ByteArray) (bq : Bool) (ga : Nat) (w : World) (hi : i < l.length) (hl : l.length ≤ 1048576) (hB : B ≤ w.heap.size) (ho : w.ownsRow B 61 3 (.slice (some ⟨g, 0, none⟩) l.length l.length) l.length (l.flatMap flP.c)) (ha : w.heap[ga]? = some (.cells #[.string bx, .string bk, .bool bq] 61 (0, 0))) :
    Calls Tryz.prog 126 #[.slice (some ⟨g, 0, none⟩) l.length l.length, .int .i64 i, .slice (some ⟨ga, 0, none⟩) 1 1] w fun r w' => ∃ g2 c2, r = .returned (.slice (some ⟨g2, 0, none⟩) (l.length + 1) c2) ∧ w'.ownsRow B 61 3 (.slice (some ⟨g2, 0, none⟩) (l.length + 1) c2) (l.length + 1) ((l.take i ++ ⟨bx, bk, bq⟩ :: l.drop i).flatMap flP.c) ∧ w.heap.size ≤ g2 ∧ Below w.heap.size w w' := by
  obtain ⟨i1, ki, kz0, kz1, kz2⟩ := infoX
  have hcells := owns_cells flP.c_len ho
  have hgl : g < w.heap.size := by obtain ⟨_, cur, hcur⟩ := owns_at ho; exact (Array.getElem?_eq_some_iff.1 hcur).1
  have hgal := (Array.getElem?_eq_some_iff.1 ha).1
  obtain ⟨n, hn⟩ : ∃ n, l.length = n := ⟨_, rfl⟩
  have hxl : ((l.take i).flatMap flP.c).length = i * 3 := by rw [flat_len flP.c_len, List.length_take]; congr 1; omega
  have hdl : ((l.drop i).flatMap flP.c).length = (n - i) * 3 := by rw [flat_len flP.c_len, List.length_drop, hn]
  have hxc : ∀ (j : Nat) (u : Value), ((l.take i).flatMap flP.c)[j]? = some u → w.cell? ((⟨g, 0, none⟩ : Addr).add j) = some u := fun j u hu => by
    rw [add_at, Nat.zero_add]
    refine hcells j u ?_
    rw [← flat_take l i, List.getElem?_append_left (List.getElem?_eq_some_iff.1 hu).1]
    exact hu
  have hdc : ∀ (j : Nat) (u : Value), ((l.drop i).flatMap flP.c)[j]? = some u → w.cell? ((⟨g, i * 3, none⟩ : Addr).add j) = some u := fun j u hu => by
    rw [add_at]
    refine hcells (i * 3 + j) u ?_
    rw [← flat_take l i, List.getElem?_append_right (by rw [hxl]; omega), hxl, show i * 3 + j - i * 3 = j by omega]
    exact hu
  rw [hn] at hi hl
  simp only [hn]
  have hz := fun ty => az.run_append_zeros (P := Tryz.prog) w 28 3 ty 61 i1 _ Tryz.underlying28 Tryz.underlying3 ki kz0 ⟨g, 0, none⟩ i n ((l.take i).flatMap flP.c) (by rw [hxl, kz1]) hxc (n + 1 - i) (by rw [kz1]; omega) (by omega) (by omega) (by rw [kz2]; omega) (by rw [kz2]; exact growslice_fits_wide (by omega) (by omega))
  rw [show i + (n + 1 - i) = n + 1 by omega] at hz
  have hG1 := grownCap_ge w (n + 1) n 61
  have hG2 := grownCap_le_maxLen w (n + 1) n 61 (by unfold maxLen; omega)
  obtain ⟨G, hG⟩ : ∃ G, grownCap w (n + 1) n 61 = G := ⟨_, rfl⟩
  rw [hG] at hz hG1 hG2
  obtain ⟨rest, hrest⟩ : ∃ rest : List Value, rest.length = (G - i) * 3 ∧ ∀ zc : Array Value, zc = (Value.agg #[.string ByteArray.empty, .string ByteArray.empty, .bool false]).cells → (((l.take i).flatMap flP.c).toArray ++ Builtin.zeroCells zc (n + 1 - i) ++ Builtin.zeroCells zc (G - (n + 1))) = (((l.take i).flatMap flP.c) ++ rest).toArray := by
    refine ⟨(Builtin.zeroCells (Value.agg #[.string ByteArray.empty, .string ByteArray.empty, .bool false]).cells (n + 1 - i) ++ Builtin.zeroCells (Value.agg #[.string ByteArray.empty, .string ByteArray.empty, .bool false]).cells (G - (n + 1))).toList, ?_, ?_⟩
    · simp [size_zeroCells, Value.cells]; omega
    · rintro zc rfl; simp
  have hrow := hrest.2 _ rfl
  rw [hrow] at hz
  have hk : (n : Int) + 1 - (i : Int) = ((n + 1 - i : Nat) : Int) := by omega
  rw [← hk] at hz
  obtain ⟨xs, hxs⟩ : ∃ xs, (l.take i).flatMap flP.c = xs := ⟨_, rfl⟩
  obtain ⟨cs, hcs⟩ : ∃ cs, (l.drop i).flatMap flP.c = cs := ⟨_, rfl⟩
  rw [hxs] at hz hxl
  rw [hcs] at hdl hdc
  have hfl : (l.take i ++ ⟨bx, bk, bq⟩ :: l.drop i).flatMap flP.c = xs ++ [Value.string bx, Value.string bk, Value.bool bq] ++ cs := by rw [← hxs, ← hcs]; simp [flP.c]
  rw [hfl]
  have hone : ∀ u ∈ cs, u.oneCell' = true := by rw [← hcs]; exact oneX _
  have hg1 : (w.drew.alloc (.cells (xs ++ rest).toArray 61)).heap[w.heap.size]? = some (.cells (xs ++ rest).toArray 61 (0, 0)) := bnew w.drew _ _
  have hb1 : Below w.heap.size w (w.drew.alloc (.cells (xs ++ rest).toArray 61)) := (Below.refl _ w).drew.alloc (Nat.le_refl _) _
  obtain ⟨W1, hW1⟩ : ∃ W1, w.drew.alloc (.cells (xs ++ rest).toArray 61) = W1 := ⟨_, rfl⟩
  rw [hW1] at hz hg1 hb1
  have hav := bstay ha hb1 hgal
  have hrl := hrest.1
  have hmin1 : Nat.min 1 (n + 1 - i) = 1 := Nat.min_eq_left (by omega)
  have hmin2 : Nat.min (n - i) (n - i) = n - i := Nat.min_self _
  have hc1 := fun ty => cpr.run_copy_rows (P := Tryz.prog) W1 28 28 ty 61 i1 w.heap.size (i * 3) (n + 1 - i) (G - i) ⟨ga, 0, none⟩ 1 1 (xs ++ rest).toArray 61 [Value.string bx, Value.string bk, Value.bool bq] Tryz.underlying28 ki hg1 (by rw [kz1, hmin1]; rfl) (fun j u hu => by
    rw [add_at, Nat.zero_add]
    match j, hu with
    | 0, hu => cases hu; exact bcell hav rfl
    | 1, hu => cases hu; exact bcell hav rfl
    | 2, hu => cases hu; exact bcell hav rfl
    | j + 3, hu => simp at hu) (by simp; omega) (by simp [Value.oneCell'])
  rw [hmin1] at hc1
  simp only [show ([Value.string bx, Value.string bk, Value.bool bq] : List Value).length = 3 from rfl] at hc1
  obtain ⟨A1, hA1⟩ : ∃ A1 : List Value, (xs ++ rest).take (i * 3) ++ [Value.string bx, Value.string bk, Value.bool bq] ++ (xs ++ rest).drop (i * 3 + 3) = A1 := ⟨_, rfl⟩
  rw [hA1] at hc1
  have hA1l : A1.length = i * 3 + (G - i) * 3 := by rw [← hA1]; simp; omega
  have hg2 : (W1.setRow w.heap.size A1.toArray).heap[w.heap.size]? = some (.cells A1.toArray 61 (0, 0)) := setRow_heap W1 w.heap.size _ _ 61 _ hg1
  have hb2 : Below w.heap.size w (W1.setRow w.heap.size A1.toArray) := below_setRow hb1 (Nat.le_refl _) _
  obtain ⟨W2, hW2⟩ : ∃ W2, W1.setRow w.heap.size A1.toArray = W2 := ⟨_, rfl⟩
  rw [hW2] at hc1 hg2 hb2
  have hc2 := fun ty => cpr.run_copy_rows (P := Tryz.prog) W2.drew 28 28 ty 61 i1 w.heap.size ((i + 1) * 3) (n - i) (G - (i + 1)) ⟨g, i * 3, none⟩ (n - i) (n - i) A1.toArray 61 cs Tryz.underlying28 ki hg2 (by rw [kz1, hmin2, hdl]) (fun j u hu => by
    have := hdc j u hu
    rw [add_at] at this ⊢
    exact (hb2.drew.cell (p := ⟨g, i * 3 + j, none⟩) hgl).trans this) (by rw [hdl]; simp; omega) hone
  rw [hmin2] at hc2
  have hc2 := fun ty => (hc2 ty).trans rfl
  have htwo : A1.take ((i + 1) * 3) ++ cs ++ A1.drop ((i + 1) * 3 + cs.length) = xs ++ [Value.string bx, Value.string bk, Value.bool bq] ++ cs ++ rest.drop (3 + cs.length) := by
    rw [← hA1]
    exact two_copies (v := [Value.string bx, Value.string bk, Value.bool bq]) hxl (by show i * 3 + 3 = (i + 1) * 3; omega) (by show 3 + cs.length ≤ rest.length; omega)
  rw [htwo] at hc2
  have hg3 : (W2.drew.setRow w.heap.size (xs ++ [Value.string bx, Value.string bk, Value.bool bq] ++ cs ++ rest.drop (3 + cs.length)).toArray).heap[w.heap.size]? = some (.cells (xs ++ [Value.string bx, Value.string bk, Value.bool bq] ++ cs ++ rest.drop (3 + cs.length)).toArray 61 (0, 0)) := setRow_heap W2.drew w.heap.size _ _ 61 _ hg2
  have hb3 : Below w.heap.size w (W2.drew.setRow w.heap.size (xs ++ [Value.string bx, Value.string bk, Value.bool bq] ++ cs ++ rest.drop (3 + cs.length)).toArray) := below_setRow hb2.drew (Nat.le_refl _) _
  have hown : (W2.drew.setRow w.heap.size (xs ++ [Value.string bx, Value.string bk, Value.bool bq] ++ cs ++ rest.drop (3 + cs.length)).toArray).ownsRow B 61 3 (.slice (some ⟨w.heap.size, 0, none⟩) (n + 1) G) (n + 1) (xs ++ [Value.string bx, Value.string bk, Value.bool bq] ++ cs) :=
    owns_new (tl := rest.drop (3 + cs.length)) hg3 hB (by simp) (by simp; omega) hG1 hG2 (by simp; omega)
  obtain ⟨W3, hW3⟩ : ∃ W3, W2.drew.setRow w.heap.size (xs ++ [Value.string bx, Value.string bk, Value.bool bq] ++ cs ++ rest.drop (3 + cs.length)).toArray = W3 := ⟨_, rfl⟩
  rw [hW3] at hc2 hb3 hown
  have HB3 : Hid (Below w.heap.size w W3) := hb3
  have HOWN : Hid (W3.ownsRow B 61 3 (.slice (some ⟨w.heap.size, 0, none⟩) (n + 1) G) (n + 1) (xs ++ [Value.string bx, Value.string bk, Value.bool bq] ++ cs)) := hown
  have i9 : IntKind.i64.wrap ((i : Int) + 1) = (i : Int) + 1 := by rw [IntKind.wrap_i64]; omega
  have r1 : i ≤ n := by omega
  have r2 : (0 : Int) ≤ (i : Int) + 1 := by omega
  have r3 : ¬ G = i + 1 := by omega
  have r4 : ¬ n = i := by omega
  have q1 : ¬ (i : Int) = (n : Int) := by omega
  have q2 : i < G := by omega
  have q3 : i + 1 < G := by omega
  have q4 : (n : Int) < (n : Int) + 1 := by omega
  have q5 : n - i ≠ 0 := by omega
  clear hcells hxc hdc ho ha hrest hrow hav hg1 hg2 hg3 hb1 hb2 hb3 hown hA1 htwo hW1 hW2 hW3 hone hfl hxs hcs hk hG
  go_enter Tryz.func126, Tryz.ntmps126
  go_wp2_with (at_builtin; first | refine cpr.wpList_append_run rfl _ _ 28 3 rfl _ _ _ rfl rfl (hz _) ?_ | refine cpr.wpList_copy_run rfl _ _ 28 28 rfl _ _ _ rfl rfl (hc1 _) ?_)
  refine dk.region_sets (ws w.heap.size g i n G) [46, 47, 48, 49, 50, 51, 52, 53, 54] (dk.Cl (fun b W => W = if b then W3 else W2.drew) 8) (by kernel_rfl) (by kernel_rfl) rfl (by kernel_rfl) rfl ?each ?fin
  case each =>
    refine ⟨dk.q (by decide) (.slice (some ⟨w.heap.size, 0, none⟩) (n + 1) G) (by rintro _ ⟨⟩; exact dk.sets_on _ (by simp) _ rfl) (fun b W h => by simp [execOp, go_sem, Act.eval, dk.sets_get, ws, List.lookup]), ?_⟩
    refine ⟨dk.q (by decide) (.int .i64 i) (by rintro _ ⟨⟩; exact dk.sets_on _ (by simp) _ rfl) (fun b W h => by simp [execOp, go_sem, Act.eval, dk.sets_get, ws, List.lookup]), ?_⟩
    refine ⟨dk.q (by decide) (.int .i64 1) (by rintro _ ⟨⟩; exact dk.sets_on _ (by simp) _ rfl) (fun b W h => by simp [execOp, go_sem, Act.eval, dk.sets_get, ws, List.lookup]), ?_⟩
    refine ⟨dk.q (by decide) (.int .i64 ((i : Int) + 1)) (by rintro _ ⟨⟩; exact dk.sets_on _ (by simp) _ rfl) (fun b W h => by simp [execOp, go_sem, Act.eval, dk.sets_get, ws, List.lookup, i9]), ?_⟩
    refine ⟨dk.q (by decide) (.slice (some ⟨w.heap.size, (i + 1) * 3, none⟩) (n - i) (G - (i + 1))) (by rintro _ ⟨⟩; exact dk.sets_on _ (by simp) _ rfl) (fun b W h => by simp [execOp, go_sem, Act.eval, dk.sets_get, ws, List.lookup, r1, r2, r3]), ?_⟩
    refine ⟨dk.q (by decide) (.slice (some ⟨g, 0, none⟩) n n) (by rintro _ ⟨⟩; exact dk.sets_on _ (by simp) _ rfl) (fun b W h => by simp [execOp, go_sem, Act.eval, dk.sets_get, ws, List.lookup]), ?_⟩
    refine ⟨dk.q (by decide) (.int .i64 i) (by rintro _ ⟨⟩; exact dk.sets_on _ (by simp) _ rfl) (fun b W h => by simp [execOp, go_sem, Act.eval, dk.sets_get, ws, List.lookup]), ?_⟩
    refine ⟨dk.q (by decide) (.slice (some ⟨g, i * 3, none⟩) (n - i) (n - i)) (by rintro _ ⟨⟩; exact dk.sets_on _ (by simp) _ rfl) (fun b W h => by simp [execOp, go_sem, Act.eval, dk.sets_get, ws, List.lookup, r1, r4]), ?_⟩
    refine ⟨cpr.lastv (.int .i64 ((n - i : Nat) : Int)) (by rintro _ ⟨⟩; exact dk.sets_on _ (by simp) _ rfl) (fun W h => ?_), trivial⟩
    obtain rfl : W = W2.drew := h
    refine ⟨W3, ?_, rfl⟩
    simp [execOp, resolve, invoke, builtin, Act.eval, dk.sets_get, ws, List.lookup, hc2]
    rfl
  case fin =>
    intro L W hL hC
    obtain rfl : W = W3 := by
      have h8 := hL 8 (by decide)
      unfold dk.Cl at hC
      rw [h8] at hC
      exact hC
    simp only [dk.sets, ws]
    go_wp2
    go_ret
    exact ⟨_, _, rfl, HOWN.out, Nat.le_refl _, HB3.out⟩
set_option maxRecDepth 100000 in
set_option maxHeartbeats 4000000 in
theorem insert_end (l : List flP.Pr) (g B : Nat) (bx bk : ByteArray) (bq : Bool) (ga : Nat) (w : World) (hl : l.length ≤ 1048576) (hB : B ≤ w.heap.size) (ho : w.ownsRow B 61 3 (.slice (some ⟨g, 0, none⟩) l.length l.length) l.length (l.flatMap flP.c)) (ha : w.heap[ga]? = some (.cells #[.string bx, .string bk, .bool bq] 61 (0, 0))) :
    Calls Tryz.prog 126 #[.slice (some ⟨g, 0, none⟩) l.length l.length, .int .i64 l.length, .slice (some ⟨ga, 0, none⟩) 1 1] w fun r w' => ∃ g2 c2, r = .returned (.slice (some ⟨g2, 0, none⟩) (l.length + 1) c2) ∧ w'.ownsRow B 61 3 (.slice (some ⟨g2, 0, none⟩) (l.length + 1) c2) (l.length + 1) ((l ++ [(⟨bx, bk, bq⟩ : flP.Pr)]).flatMap flP.c) ∧ (g2 = g ∨ w.heap.size ≤ g2) ∧ w.grownBy w' (some g) := by
  obtain ⟨i1, ki, kz0, kz1, kz2⟩ := infoX
  have hfl : (l ++ [(⟨bx, bk, bq⟩ : flP.Pr)]).flatMap flP.c = l.flatMap flP.c ++ [Value.string bx, Value.string bk, Value.bool bq] := by rw [List.flatMap_append]; simp [flP.c]
  rw [hfl]
  have hnw : ∀ (j : Nat) (u : Value), [Value.string bx, Value.string bk, Value.bool bq][j]? = some u → w.cell? ((⟨ga, 0, none⟩ : Addr).add j) = some u := fun j u hu => by
    rw [add_at, Nat.zero_add]
    match j, hu with
    | 0, hu => cases hu; exact bcell ha rfl
    | 1, hu => cases hu; exact bcell ha rfl
    | 2, hu => cases hu; exact bcell ha rfl
    | j + 3, hu => simp at hu
  clear hfl ha
  go_enter Tryz.func126, Tryz.ntmps126
  go_wp2_with (at_builtin; refine wpList_append_own_at _ rfl _ _ 28 rfl B 61 i1 (.agg #[.string ByteArray.empty, .string ByteArray.empty, .bool false]) 3 40 Tryz.underlying28 ki kz0 kz1 kz2 rfl (by decide) _ _ _ rfl ho ⟨ga, 0, none⟩ 1 1 [Value.string bx, Value.string bk, Value.bool bq] rfl rfl hnw (by simp [Value.oneCell']) (by unfold maxLen; omega) (by omega) hB ?_)
  intro v' w' hown hgrow _ hat
  obtain ⟨g2, c2, rfl⟩ := own_form hown
  have HO : Hid (w'.ownsRow B 61 3 (.slice (some ⟨g2, 0, none⟩) (l.length + 1) c2) (l.length + 1) (l.flatMap flP.c ++ [Value.string bx, Value.string bk, Value.bool bq])) := hown
  have HG : Hid (w.grownBy w' (some g)) := hgrow
  have HAT : Hid (g2 = g ∨ w.heap.size ≤ g2) := by
    rcases hat with h | h
    · exact .inl (Option.some.inj h)
    · exact .inr (Nat.le_of_eq (Option.some.inj h).symm)
  clear hown hgrow ho hnw hat
  go_wp2
  go_ret
  exact ⟨_, _, rfl, HO.out, HAT.out, HG.out⟩
/-- either way -/
theorem insert_pair (l : List flP.Pr) (g i B : Nat) (bx bk : ByteArray) (bq : Bool) (ga : Nat) (w : World) (hi : i ≤ l.length) (hl : l.length ≤ 1048576) (hB : B ≤ w.heap.size) (ho : w.ownsRow B 61 3 (.slice (some ⟨g, 0, none⟩) l.length l.length) l.length (l.flatMap flP.c)) (ha : w.heap[ga]? = some (.cells #[.string bx, .string bk, .bool bq] 61 (0, 0))) :
    Calls Tryz.prog 126 #[.slice (some ⟨g, 0, none⟩) l.length l.length, .int .i64 i, .slice (some ⟨ga, 0, none⟩) 1 1] w fun r w' => ∃ g2 c2, r = .returned (.slice (some ⟨g2, 0, none⟩) (l.length + 1) c2) ∧ w'.ownsRow B 61 3 (.slice (some ⟨g2, 0, none⟩) (l.length + 1) c2) (l.length + 1) ((l.take i ++ ⟨bx, bk, bq⟩ :: l.drop i).flatMap flP.c) ∧ (g2 = g ∨ w.heap.size ≤ g2) ∧ w.grownBy w' (some g) := by
  by_cases h : i < l.length
  · exact (insert_mid l g i B bx bk bq ga w h hl hB ho ha).mono fun r w' ⟨g2, c2, h1, h2, h4, h3⟩ => ⟨g2, c2, h1, h2, .inr h4, ⟨h3.os, h3.tape, h3.output, h3.size, fun k hk _ => h3.block k hk⟩⟩
  · obtain rfl : i = l.length := by omega
    rw [List.take_length, List.drop_length]
    exact insert_end l g B bx bk bq ga w hl hB ho ha
end Go.Proofs.YtoemkbooomgieaaGreatDoor.insp

/- The program's putSorted at pairs: an ascending run with a pair in its place. -/
namespace Go.Proofs.YtoemkbooomgieaaGreatDoor.psi
open Go.ChangeShapes Go.WideShapes Go.ChangeAt Go.RowKit Go.Proofs.YtoemkbooomgieaaGreatDoor.fl Go.Proofs.YtoemkbooomgieaaGreatDoor.fo Go.Proofs.YtoemkbooomgieaaGreatDoor.rn Go.Proofs.YtoemkbooomgieaaGreatDoor.rc Go.Proofs.YtoemkbooomgieaaGreatDoor.ro Go.Proofs.YtoemkbooomgieaaGreatDoor.tk Go.Proofs.YtoemkbooomgieaaGreatDoor.pf Go.Proofs.YtoemkbooomgieaaGreatDoor.ptp
set_option linter.unusedVariables false

theorem flat_set (l : List flP.Pr) (p : Nat) (pk pv : ByteArray) (pg : Bool) : p < l.length → (((l.flatMap flP.c).set (p * 3) (.string pk)).set (p * 3 + 1) (.string pv)).set (p * 3 + 2) (.bool pg) = (l.set p ⟨pk, pv, pg⟩).flatMap flP.c := by
  induction l generalizing p with
  | nil => intro h; simp at h
  | cons e l ih =>
    intro h
    cases p with
    | zero => simp [flP.c]
    | succ p =>
      have := ih p (by simp at h; omega)
      simp only [List.flatMap_cons, List.set_cons_succ, flP.c] at this ⊢
      rw [← this, show (p + 1) * 3 = p * 3 + 3 by omega]
      simp
theorem owns_put {W : World} {B gm c p : Nat} {l : List flP.Pr} {pk pv : ByteArray} {pg : Bool} (h : W.ownsRow B 61 3 (.slice (some ⟨gm, 0, none⟩) l.length c) l.length (l.flatMap flP.c)) (hp : p < l.length) : (((W.setCell ⟨gm, p * 3, none⟩ (.string pk)).setCell ⟨gm, p * 3 + 1, none⟩ (.string pv)).setCell ⟨gm, p * 3 + 2, none⟩ (.bool pg)).ownsRow B 61 3 (.slice (some ⟨gm, 0, none⟩) (l.set p ⟨pk, pv, pg⟩).length c) (l.set p ⟨pk, pv, pg⟩).length ((l.set p ⟨pk, pv, pg⟩).flatMap flP.c) := by
  obtain ⟨h0, ⟨h1, _⟩ | ⟨g', cap', cur, h1, h2, h3, h4, h5, h6, h7⟩⟩ := h
  · cases h1
  cases h1
  have hs := bset (bset (bset h3 (p * 3) (.string pk)) (p * 3 + 1) (.string pv)) (p * 3 + 2) (.bool pg)
  rw [List.length_set]
  refine ⟨by rw [flat_len flP.c_len, List.length_set], .inr ⟨gm, c, _, rfl, h2, hs, h4, h5, by simp [h6], ?_⟩⟩
  rw [← flat_set l p pk pv pg hp, ← h7]
  simp [List.take_set]

set_option maxRecDepth 100000 in
set_option maxHeartbeats 4000000 in
theorem impl_sorted (l : List flP.Pr) (g B : Nat) (pk pv : ByteArray) (pg : Bool) (w : World) (hl : l.length ≤ 1048576) (hup : UpP l l.length) (hB : B ≤ w.heap.size) (ho : w.ownsRow B 61 3 (.slice (some ⟨g, 0, none⟩) l.length l.length) l.length (l.flatMap flP.c)) :
    Calls Tryz.prog 106 #[.slice (some ⟨g, 0, none⟩) l.length l.length, .agg #[.string pk, .string pv, .bool pg], .func (.func 68) #[] #[]] w fun e w' => ∃ g2 c2, e = .returned (.slice (some ⟨g2, 0, none⟩) (setP l ⟨pk, pv, pg⟩).length c2) ∧ w'.ownsRow B 61 3 (.slice (some ⟨g2, 0, none⟩) (setP l ⟨pk, pv, pg⟩).length c2) (setP l ⟨pk, pv, pg⟩).length ((setP l ⟨pk, pv, pg⟩).flatMap flP.c) ∧ (g2 = g ∨ w.heap.size ≤ g2) ∧ w.grownBy w' (some g) := by
  have hb : Below w.heap.size w (w.alloc (.cells #[.string pk, .string pv, .bool pg] 61)) := (Below.refl _ _).alloc (Nat.le_refl _) _
  have hA := bnew w #[.string pk, .string pv, .bool pg] 61
  have hown := ho.alloc (.cells #[.string pk, .string pv, .bool pg] 61)
  have hgl := (ho.lt g rfl).2
  obtain ⟨W, hW⟩ : ∃ W, w.alloc (.cells #[.string pk, .string pv, .bool pg] 61) = W := ⟨_, rfl⟩
  have hsW : W.heap.size = w.heap.size + 1 := by rw [← hW]; simp
  rw [hW] at hb hA hown
  have hse := tgi.search_pair l (some ⟨g, 0, none⟩) l.length pk pv pg W hl (by obtain ⟨a', c', e, hr⟩ := own_row flP.c_len hown; cases e; exact hr) (up_mon hup _)
  have HA : Hid (W.heap[w.heap.size]? = some (.cells #[.string pk, .string pv, .bool pg] 61 (0, 0))) := hA
  have p0 : W.cell? ⟨w.heap.size, 0, none⟩ = some (.string pk) := bcell hA rfl
  have p1 : W.cell? ⟨w.heap.size, 1, none⟩ = some (.string pv) := bcell hA rfl
  have p2 : W.cell? ⟨w.heap.size, 2, none⟩ = some (.bool pg) := bcell hA rfl
  have HOW : Hid (W.ownsRow B 61 3 (.slice (some ⟨g, 0, none⟩) l.length l.length) l.length (l.flatMap flP.c)) := hown
  clear ho hA hown
  go_enter Tryz.func106, Tryz.ntmps106
  go_wp2_with (go_at_call 125; fail)
  clear hW p0 p1 p2
  refine hse.mono ?_
  rintro e w2 ⟨⟨p, bo, rfl, hpos, hfo⟩, hb2⟩
  have HP : Hid (posP l pk = p) := posP_of hpos
  have hpl := hpos.1
  have HG2 : Hid (w.grownBy w2 (some g)) := by
    have h : Below w.heap.size w w2 := hb.trans (hb2.mono hb.size)
    exact ⟨h.os, h.tape, h.output, h.size, fun k hk _ => h.block k hk⟩
  have a2 := bstay HA.out hb2 (by omega)
  have c0 : w2.cell? ⟨w.heap.size, 0, none⟩ = some (.string pk) := bcell a2 rfl
  have c1 : w2.cell? ⟨w.heap.size, 1, none⟩ = some (.string pv) := bcell a2 rfl
  have c2 : w2.cell? ⟨w.heap.size, 2, none⟩ = some (.bool pg) := bcell a2 rfl
  have HO2 : Hid (w2.ownsRow B 61 3 (.slice (some ⟨g, 0, none⟩) l.length l.length) l.length (l.flatMap flP.c)) := HOW.out.kept (row := none) ⟨hb2.os, hb2.tape, hb2.output, hb2.size, fun k hk _ => hb2.block k hk⟩ (by simp [Value.ownBlock])
  have hs2 := hb2.size
  have HFO : Hid (bo = true ↔ ∃ a, l[p]? = some a ∧ cmpP a ⟨pk, pv, pg⟩ = 0) := hfo
  clear hse hpos hfo a2 HA HOW hb2
  cases bo with
  | true =>
    have HIS : Hid (isP l p pk = true) := isP_true.2 (HFO.out.1 rfl)
    have hpl2 : p < l.length := by
      obtain ⟨a, ha, _⟩ := isP_true.1 HIS.out
      exact (List.getElem?_eq_some_iff.1 ha).1
    have hp3 : (p : Int) < (l.length : Int) := by omega
    have HPUT := owns_put (pk := pk) (pv := pv) (pg := pg) HO2.out hpl2
    have HPT : Hid ((((w2.setCell ⟨g, p * 3, none⟩ (.string pk)).setCell ⟨g, p * 3 + 1, none⟩ (.string pv)).setCell ⟨g, p * 3 + 2, none⟩ (.bool pg)).ownsRow B 61 3 (.slice (some ⟨g, 0, none⟩) (l.set p ⟨pk, pv, pg⟩).length l.length) (l.set p ⟨pk, pv, pg⟩).length ((l.set p ⟨pk, pv, pg⟩).flatMap flP.c)) := HPUT
    obtain ⟨cur, hcur, hcs⟩ : ∃ cur, w2.heap[g]? = some (.cells cur 61 (0, 0)) ∧ cur.size = l.length * 3 := by
      obtain ⟨_, ⟨e, _⟩ | ⟨g', cap, cur, e, _, hg, _, _, hs, _⟩⟩ := HO2.out
      · cases e
      · cases e; exact ⟨cur, hg, hs⟩
    obtain ⟨z0, hz0⟩ : ∃ v, w2.cell? ⟨g, p * 3, none⟩ = some v := ⟨_, bcell hcur (Array.getElem?_eq_getElem (by omega))⟩
    obtain ⟨z1, hz1⟩ : ∃ v, w2.cell? ⟨g, p * 3 + 1, none⟩ = some v := ⟨_, bcell hcur (Array.getElem?_eq_getElem (by omega))⟩
    obtain ⟨z2, hz2⟩ : ∃ v, w2.cell? ⟨g, p * 3 + 2, none⟩ = some v := ⟨_, bcell hcur (Array.getElem?_eq_getElem (by omega))⟩
    have f0 := bfree hcur (p * 3)
    have f1 := bfree hcur (p * 3 + 1)
    have f2 := bfree hcur (p * 3 + 2)
    clear HPUT hcur
    go_wp2
    go_ret
    rw [setP_there HP.out HIS.out, List.length_set]
    refine ⟨g, l.length, rfl, by have := HPT.out; rw [List.length_set] at this; exact this, .inl rfl, ?_⟩
    exact ⟨HG2.out.os, HG2.out.tape, HG2.out.output, by simpa using HG2.out.size, fun k hk hne => (((Below.heap_setCell _ _ _ _ (fun e => hne (by rw [e]))).trans (Below.heap_setCell _ _ _ _ (fun e => hne (by rw [e])))).trans (Below.heap_setCell _ _ _ _ (fun e => hne (by rw [e])))).trans (HG2.out.block k hk hne)⟩
  | false =>
    have HIS : Hid (isP l p pk = false) := by
      cases h : isP l p pk with
      | false => rfl
      | true =>
        have := HFO.out.2 (isP_true.1 h)
        cases this
    have hins := insp.insert_pair l g p B pk pv pg w2.heap.size (w2.alloc (.cells #[.string pk, .string pv, .bool pg] 61)) hpl hl (by simp; omega) (HO2.out.alloc _) (bnew w2 _ _)
    go_wp2_with (go_at_call 126; fail)
    refine hins.mono ?_
    rintro e w3 ⟨g2, c2, rfl, hown3, hat3, hgr3⟩
    have HO3 : Hid (w3.ownsRow B 61 3 (.slice (some ⟨g2, 0, none⟩) (l.length + 1) c2) (l.length + 1) ((l.take p ++ ⟨pk, pv, pg⟩ :: l.drop p).flatMap flP.c)) := hown3
    have HG3 : Hid ((w2.alloc (.cells #[.string pk, .string pv, .bool pg] 61)).grownBy w3 (some g)) := hgr3
    have HAT : Hid (g2 = g ∨ w.heap.size ≤ g2) := by
      rcases hat3 with h | h
      · exact .inl h
      · rw [World.size_alloc] at h
        exact .inr (by omega)
    clear hins hown3 hgr3 hat3
    go_wp2
    go_ret
    have hlen : (setP l ⟨pk, pv, pg⟩).length = l.length + 1 := by rw [setP_new HP.out HIS.out]; simp; omega
    rw [hlen, setP_new HP.out HIS.out]
    refine ⟨g2, c2, rfl, HO3.out, HAT.out, ?_⟩
    have hs3 := HG3.out.size
    rw [World.size_alloc] at hs3
    exact ⟨HG3.out.os.trans HG2.out.os, HG3.out.tape.trans HG2.out.tape, HG3.out.output.trans HG2.out.output, by have := HG2.out.size; omega, fun k hk hne => ((HG3.out.block k (by simp; omega) hne).trans (Below.heap_alloc w2 _ k (by omega))).trans (HG2.out.block k hk hne)⟩
end Go.Proofs.YtoemkbooomgieaaGreatDoor.psi

/- The specification's l07With, TablePut and TableDrop. -/
namespace Go.Proofs.YtoemkbooomgieaaGreatDoor.pts
open Go.ChangeShapes Go.WideShapes Go.ChangeAt Go.RowKit Go.Proofs.YtoemkbooomgieaaGreatDoor.fl Go.Proofs.YtoemkbooomgieaaGreatDoor.fo Go.Proofs.YtoemkbooomgieaaGreatDoor.rn Go.Proofs.YtoemkbooomgieaaGreatDoor.tko Go.Proofs.YtoemkbooomgieaaGreatDoor.ptp Go.Proofs.YtoemkbooomgieaaGreatDoor.fls
set_option linter.unusedVariables false

theorem own_on {w w' : World} {B s n : Nat} {U : TypeId} {v : Value} {xs : List Value} (h : w.ownsRow B U s v n xs) (hb : Below w.heap.size w w') : w'.ownsRow B U s v n xs :=
  h.kept (row := none) ⟨hb.os, hb.tape, hb.output, hb.size, fun k hk _ => hb.block k hk⟩ (by cases v.ownBlock <;> simp)
/-- an answer's rows, at or above B -/
structure SA (W : World) (B : Nat) (sa ta : Option Addr) (sc tc : Nat) (l : List flP.Pr) (ks : List Rn) : Prop where
  of : W.ownsRow B 61 3 (.slice sa l.length sc) l.length (l.flatMap flP.c)
  or : W.ownsRow B 28 1 (.slice ta ks.length tc) ks.length (ks.flatMap cR)
  rows : ∀ r ∈ ks, sct.OwnR W B r
  ap : sco.Ap sa ks
theorem SA.row {W : World} {B : Nat} {sa ta : Option Addr} {sc tc : Nat} {l : List flP.Pr} {ks : List Rn} (h : SA W B sa ta sc tc l ks) : Row flP.c 3 W W.heap.size sa l ∧ VR W W.heap.size ta ks :=
  ⟨row_of flP.c_len rfl h.of, row_of cR_len rfl h.or, fun r hr => row_of flP.c_len rfl (h.rows r hr)⟩
theorem SA.set {W : World} {B : Nat} {sa ta : Option Addr} {sc tc : Nat} {l : List flP.Pr} {ks : List Rn} (h : SA W B sa ta sc tc l ks) {g j : Nat} {u : Value} (hg : g < B) : SA (W.setCell ⟨g, j, none⟩ u) B sa ta sc tc l ks :=
  ⟨sct.own_set h.of hg, sct.own_set h.or hg, fun r hr => sct.own_set (h.rows r hr) hg, h.ap⟩
theorem own_set_ty {w : World} {B n s : Nat} {U T : TypeId} {v : Value} {xs : List Value} {g j : Nat} {u : Value} {cur : Array Value} (h : w.ownsRow B U s v n xs) (hg : w.heap[g]? = some (.cells cur T (0, 0))) (hT : U ≠ T) : (w.setCell ⟨g, j, none⟩ u).ownsRow B U s v n xs := by
  refine h.kept (row := some g) ⟨rfl, rfl, rfl, by simp, fun k hk hne => Below.heap_setCell _ _ _ _ (fun e => hne (by rw [e]))⟩ (.inr fun e => ?_)
  obtain ⟨c, hc⟩ := sct.typed h e
  rw [hg] at hc
  simp at hc
  exact hT hc.2.symm

end Go.Proofs.YtoemkbooomgieaaGreatDoor.pts

/- The program's withYoung, TablePut and TableDrop. -/
namespace Go.Proofs.YtoemkbooomgieaaGreatDoor.pti
open Go.ChangeShapes Go.WideShapes Go.ChangeAt Go.RowKit Go.Proofs.YtoemkbooomgieaaGreatDoor.fl Go.Proofs.YtoemkbooomgieaaGreatDoor.fo Go.Proofs.YtoemkbooomgieaaGreatDoor.rn Go.Proofs.YtoemkbooomgieaaGreatDoor.tko Go.Proofs.YtoemkbooomgieaaGreatDoor.ptp Go.Proofs.YtoemkbooomgieaaGreatDoor.tan Go.Proofs.YtoemkbooomgieaaGreatDoor.fls
set_option linter.unusedVariables false

theorem own_owns {α : Type} {c : α → List Value} {n B g : Nat} {U : TypeId} {l : List α} {w : World} (hn : ∀ e, (c e).length = n) (ho : Own c n U w g l l.length) (hB : B ≤ g) (hl : l.length ≤ maxLen) : w.ownsRow B U n (.slice (some ⟨g, 0, none⟩) l.length l.length) l.length (l.flatMap c) := by
  obtain ⟨cur, h1, h2, h3⟩ := ho
  refine ⟨flat_len hn l, .inr ⟨g, l.length, cur, rfl, hB, h1, Nat.le_refl _, hl, h2, ?_⟩⟩
  apply List.ext_getElem?
  intro j
  by_cases hj : j < l.length * n
  · rw [List.getElem?_take_of_lt hj]
    have hj2 : j < (l.flatMap c).length := by rw [flat_len hn]; exact hj
    obtain ⟨u, hu⟩ : ∃ u, (l.flatMap c)[j]? = some u := ⟨_, List.getElem?_eq_getElem hj2⟩
    obtain ⟨i, e, r, k1, k2, k3⟩ := flat_get hn l j _ hu
    rw [hu]
    subst k3
    have := h3 i e (List.getElem?_eq_some_iff.1 k1).1 k1 r _ k2
    simpa using this
  · rw [List.getElem?_eq_none (by rw [List.length_take]; omega), List.getElem?_eq_none (by rw [flat_len hn]; omega)]
theorem owns_ownO {α : Type} {c : α → List Value} {n B g cap : Nat} {U : TypeId} {l : List α} {w : World} (hn : ∀ e, (c e).length = n) (ho : w.ownsRow B U n (.slice (some ⟨g, 0, none⟩) l.length cap) l.length (l.flatMap c)) : OwnO c n U w g 0 l l.length := by
  obtain ⟨_, ⟨h1, _⟩ | ⟨g', cap', cur, h1, h2, h3, h4, h5, h6, h7⟩⟩ := ho
  · cases h1
  cases h1
  refine ⟨cur, h3, by rw [h6, Nat.zero_add]; exact Nat.mul_le_mul_right n h4, fun i e hi he j v hv => ?_⟩
  have hf := flat_at hn l i e he j v hv
  rw [← h7] at hf
  have hlt := (List.getElem?_eq_some_iff.1 hf).1
  rw [List.length_take] at hlt
  rw [List.getElem?_take_of_lt (by omega)] at hf
  rw [Nat.zero_add]
  simpa using hf
/-- a copy given back as it is -/
theorem ta_set {w' : World} {B r n g h : Nat} {ys : List flP.Pr} {ks : List Rn} (hn : n = ks.length) (hr : r < B) (ho : Own flP.c 3 61 w' g ys ys.length) (hor : OR w' B h n ks) (hg : B ≤ g) (hh : B ≤ h) (hne : ∀ (i : Nat) (r : Rn), ks[i]? = some r → r.a ≠ some ⟨g, 0, none⟩) (u v : Value) : TA ((w'.setCell ⟨r, 0, none⟩ u).setCell ⟨r, 1, none⟩ v) B (some ⟨g, 0, none⟩) (some ⟨h, 0, none⟩) ys ks := by
  subst hn
  exact of_own_runs (B' := B) ((ho.kept (Below.heap_setCell _ _ _ _ (show g ≠ r by omega))).kept (Below.heap_setCell _ _ _ _ (show g ≠ r by omega))) ((hor.set hr (by omega) _ _).set hr (by omega) _ _) hg hh (Nat.le_refl _) hne
theorem or_turn {w w' : World} {B h n : Nat} {ks : List Rn} (ho : OR w B h n ks) (hk : ∀ k, k = h ∨ (∃ (i : Nat) (r : Rn), ks[i]? = some r ∧ r.a = some ⟨k, 0, none⟩) → w'.heap[k]? = w.heap[k]?) : OR w' B h n ks := by
  obtain ⟨cur, h1, h2⟩ := ho.blk
  refine ⟨⟨cur, (hk h (.inl rfl)).trans h1, h2⟩, fun i r hr => ?_, ho.nd⟩
  obtain ⟨h', e, h3, h4, h5⟩ := ho.own i r hr
  exact ⟨h', e, h3, h4, h5.kept (hk h' (.inr ⟨i, r, hr, e⟩))⟩
/-- what stands when the pair is put in -/
structure NX (w : World) (BX : Array Value) (B n4 g2 n5 c2 h n : Nat) (ks : List Rn) (l : List flP.Pr) (X : World) : Prop where
  bel : Below w.heap.size w X
  box : X.heap[w.heap.size]? = some (.cells BX 30 (0, 0))
  res : X.heap[w.heap.size + 1 + 1]? = some (.cells #[.slice none 0 0, .slice none 0 0] 30 (0, 0))
  out : X.heap[n4]? = some (.cells #[.slice (some ⟨g2, 0, none⟩) n5 c2, .slice (some ⟨h, 0, none⟩) n n] 30 (0, 0))
  ow : X.ownsRow B 61 3 (.slice (some ⟨g2, 0, none⟩) n5 c2) n5 (l.flatMap flP.c)
  orr : OR X B h n ks
  ne : ∀ (i : Nat) (r : Rn), ks[i]? = some r → r.a ≠ some ⟨g2, 0, none⟩
theorem NX.on {w X X' : World} {BX : Array Value} {B n4 g2 n5 c2 h n : Nat} {ks : List Rn} {l : List flP.Pr} (hx : NX w BX B n4 g2 n5 c2 h n ks l X) (hb : Below X.heap.size X X') : NX w BX B n4 g2 n5 c2 h n ks l X' :=
  ⟨hx.bel.trans (hb.mono hx.bel.size), bstay hx.box hb (Array.getElem?_eq_some_iff.1 hx.box).1, bstay hx.res hb (Array.getElem?_eq_some_iff.1 hx.res).1, bstay hx.out hb (Array.getElem?_eq_some_iff.1 hx.out).1, pts.own_on hx.ow hb, hx.orr.on hb, hx.ne⟩
theorem nx_of {w W4 w5 w6 : World} {BX : Array Value} {B n4 g g2 n5 c2 h n : Nat} {ks : List Rn} {ys l : List flP.Pr} (h0 : Below w.heap.size w W4) (hA : W4.heap[w.heap.size]? = some (.cells BX 30 (0, 0))) (hR : W4.heap[w.heap.size + 1 + 1]? = some (.cells #[.slice none 0 0, .slice none 0 0] 30 (0, 0))) (hN : W4.heap[n4]? = some (.cells #[.slice (some ⟨g, 0, none⟩) ys.length ys.length, .slice (some ⟨h, 0, none⟩) n n] 30 (0, 0))) (hO : Own flP.c 3 61 W4 g ys ys.length) (hor : OR W4 B h n ks) (hne : ∀ (i : Nat) (r : Rn), ks[i]? = some r → r.a ≠ some ⟨g, 0, none⟩) (hw : w.heap.size + 3 ≤ n4) (hgB : w.heap.size + 3 ≤ g)
    (h5 : Below W4.heap.size W4 w5) (hown : w6.ownsRow B 61 3 (.slice (some ⟨g2, 0, none⟩) n5 c2) n5 (l.flatMap flP.c)) (hat : g2 = g ∨ w5.heap.size ≤ g2) (hgr : w5.grownBy w6 (some g)) : NX w BX B n4 g2 n5 c2 h n ks l (w6.setCell ⟨n4, 0, none⟩ (.slice (some ⟨g2, 0, none⟩) n5 c2)) := by
  have hs5 := h5.size
  have hng : n4 ≠ g := fun e => own_ne (by decide) hO hN e.symm
  obtain ⟨cu, hcu, _⟩ := hor.blk
  have hhg : h ≠ g := fun e => own_ne (by decide) hO hcu e.symm
  have hhn : h ≠ n4 := fun e => by subst e; rw [hN] at hcu; simp at hcu
  have blk6 : ∀ k, k < W4.heap.size → k ≠ g → w6.heap[k]? = W4.heap[k]? := fun k hk hkg => (hgr.block k (by omega) (fun e => hkg (Option.some.inj e))).trans (h5.block k hk)
  have hl := hor.lt
  have n6 : w6.heap[n4]? = _ := (blk6 n4 (Array.getElem?_eq_some_iff.1 hN).1 hng).trans hN
  have lA := (Array.getElem?_eq_some_iff.1 hA).1
  have lR := (Array.getElem?_eq_some_iff.1 hR).1
  have hb6 : Below w.heap.size w w6 := ⟨hgr.os.trans (h5.os.trans h0.os), hgr.tape.trans (h5.tape.trans h0.tape), hgr.output.trans (h5.output.trans h0.output), by have := hgr.size; have := h0.size; omega, fun k hk => (blk6 k (by have := h0.size; omega) (by omega)).trans (h0.block k hk)⟩
  refine ⟨hb6.setCell (show w.heap.size ≤ n4 by omega) _, boff ((blk6 _ lA (by omega)).trans hA) _ _ _ (by omega), boff ((blk6 _ lR (by omega)).trans hR) _ _ _ (by omega), bset n6 0 _, pts.own_set_ty hown n6 (by decide), or_turn hor (fun k hk => ?_), fun i r hr e => ?_⟩
  · rcases hk with rfl | ⟨i, r, hr, e⟩
    · exact (Below.heap_setCell _ _ _ _ hhn).trans (blk6 _ hl hhg)
    · obtain ⟨h', e', _, _, ho'⟩ := hor.own i r hr
      rw [e] at e'
      have e2 := congrArg Addr.block (Option.some.inj e')
      simp only at e2
      subst e2
      have hkg : k ≠ g := fun e3 => hne i r hr (by rw [e, e3])
      exact (Below.heap_setCell _ _ _ _ (own_ne (by decide) ho' hN)).trans (blk6 k ho'.lt hkg)
  · rcases hat with hat | hat
    · exact hne i r hr (by rw [e, hat])
    · obtain ⟨h', e', _, _, ho'⟩ := hor.own i r hr
      rw [e] at e'
      have e2 := congrArg Addr.block (Option.some.inj e')
      simp only at e2
      have := ho'.lt
      omega
/-- it is given back -/
theorem NX.ta {w X : World} {BX : Array Value} {B n4 g2 n5 c2 h n : Nat} {ks : List Rn} {l : List flP.Pr} (hx : NX w BX B n4 g2 n5 c2 h n ks l X) (hn : n = ks.length) (hl : l.length = n5) (hB : w.heap.size + 1 + 1 < B) (hh : B ≤ h) (u v : Value) : TA ((X.setCell ⟨w.heap.size + 1 + 1, 0, none⟩ u).setCell ⟨w.heap.size + 1 + 1, 1, none⟩ v) B (some ⟨g2, 0, none⟩) (some ⟨h, 0, none⟩) l ks := by
  subst hn
  subst hl
  have o1 := sct.own_set (j := 1) (u := v) (sct.own_set (j := 0) (u := u) hx.ow hB) hB
  have r1 := (hx.orr.set hB (by omega) 0 u).set hB (by omega) 1 v
  obtain ⟨cur, hc, _⟩ := r1.blk
  refine of_runs (.inr ⟨g2, 0, rfl, (o1.lt g2 rfl).1, owns_ownO flP.c_len o1⟩) hh hc r1.vr.1 (fun i r hr => ?_) r1.nd (fun i r hr k hk => ?_)
  · obtain ⟨h', e, _, hB', ho'⟩ := r1.own i r hr
    exact ⟨h', e, by omega, of_own ho'⟩
  · obtain ⟨_, g1, o1', a1, rfl⟩ := hk
    cases a1
    exact hx.ne i r hr

theorem own_cap {w : World} {B g n c k : Nat} {T : TypeId} {s : Nat} {xs : List Value} (h : w.ownsRow B T s (.slice (some ⟨g, 0, none⟩) n c) k xs) : n ≤ c := by
  obtain ⟨_, ⟨h1, _⟩ | ⟨g', cap, cur, h1, _, _, hcap, _⟩⟩ := h
  · cases h1
  · cases h1; exact hcap
set_option maxRecDepth 100000 in
set_option maxHeartbeats 8000000 in
theorem impl_with (ys : List flP.Pr) (rs : List Rn) (ya ra : Option Addr) (yc rc : Nat) (pk pv : ByteArray) (pg : Bool) (w : World) (F : tb.Fit ys rs) (hpk : pk.size ≤ 1048576) (hpv : pv.size ≤ 1048576) (hY : Row flP.c 3 w w.heap.size ya ys) (hR : VR w w.heap.size ra rs) :
    Calls Tryz.prog 88 #[.agg #[.slice ya ys.length yc, .slice ra rs.length rc], .agg #[.string pk, .string pv, .bool pg]] w fun e w' => ∃ sa sc ta tc ks, e = .returned (.tuple #[.agg #[.slice sa (withY ys (rs.map (·.l)) ⟨pk, pv, pg⟩).length sc, .slice ta rs.length tc], .bool (withB ys (rs.map (·.l)) ⟨pk, pv, pg⟩)]) ∧ (((withY ys (rs.map (·.l)) ⟨pk, pv, pg⟩).length ≤ sc ∧ ta.isSome = true ∧ ∀ r ∈ ks, r.l.length ≤ r.c) ∧ ks.map (·.l) = rs.map (·.l)) ∧ TA w' (w.heap.size + 3) sa ta (withY ys (rs.map (·.l)) ⟨pk, pv, pg⟩) ks ∧ Below w.heap.size w w' := by
  have hb : Below w.heap.size w (((w.alloc (.cells #[.slice ya ys.length yc, .slice ra rs.length rc] 30)).alloc (.cells #[.string pk, .string pv, .bool pg] 61)).alloc (.cells #[.slice none 0 0, .slice none 0 0] 30)) := (((Below.refl _ _).alloc (Nat.le_refl _) _).alloc (by simp) _).alloc (by simp; omega) _
  have hA := bold (bold (bnew w #[.slice ya ys.length yc, .slice ra rs.length rc] 30) (.cells #[.string pk, .string pv, .bool pg] 61)) (.cells #[.slice none 0 0, .slice none 0 0] 30)
  have hPx := bold (bnew (w.alloc (.cells #[.slice ya ys.length yc, .slice ra rs.length rc] 30)) #[.string pk, .string pv, .bool pg] 61) (.cells #[.slice none 0 0, .slice none 0 0] 30)
  rw [World.size_alloc] at hPx
  have hRs := bnew ((w.alloc (.cells #[.slice ya ys.length yc, .slice ra rs.length rc] 30)).alloc (.cells #[.string pk, .string pv, .bool pg] 61)) #[.slice none 0 0, .slice none 0 0] 30
  rw [World.size_alloc, World.size_alloc] at hRs
  obtain ⟨W, hW⟩ : ∃ W, (((w.alloc (.cells #[.slice ya ys.length yc, .slice ra rs.length rc] 30)).alloc (.cells #[.string pk, .string pv, .bool pg] 61)).alloc (.cells #[.slice none 0 0, .slice none 0 0] 30)) = W := ⟨_, rfl⟩
  have hsW : W.heap.size = w.heap.size + 3 := by rw [← hW]; simp
  rw [hW] at hb hA hRs hPx
  have hok := impl_okb ys rs ya ra yc rc W F (hY.inn hb) (hR.inn hb)
  have HF : Hid (tb.Fit ys rs) := F
  have hrl := F.rl
  have hyl := F.yl
  have HY : Hid (Row flP.c 3 w w.heap.size ya ys) := hY
  have HR : Hid (VR w w.heap.size ra rs) := hR
  have HA : Hid (W.heap[w.heap.size]? = some (.cells #[.slice ya ys.length yc, .slice ra rs.length rc] 30 (0, 0))) := hA
  have HPX : Hid (W.heap[w.heap.size + 1]? = some (.cells #[.string pk, .string pv, .bool pg] 61 (0, 0))) := hPx
  have HRS : Hid (W.heap[w.heap.size + 1 + 1]? = some (.cells #[.slice none 0 0, .slice none 0 0] 30 (0, 0))) := hRs
  have p0 : W.cell? ⟨w.heap.size, 0, none⟩ = some (.slice ya ys.length yc) := bcell hA rfl
  have p1 : W.cell? ⟨w.heap.size, 1, none⟩ = some (.slice ra rs.length rc) := bcell hA rfl
  clear hY hR hA hRs hPx F
  go_enter Tryz.func88, Tryz.ntmps88
  go_wp2_with (go_at_call 26; fail)
  clear hW p0 p1
  refine hok.mono ?_
  rintro e w2 ⟨rfl, hb2⟩
  have b2 := bstay HA.out hb2 (by omega)
  have r2 := bstay HRS.out hb2 (by omega)
  have s2 := bstay HPX.out hb2 (by omega)
  have hBw2 : Below w.heap.size w w2 := hb.trans (hb2.mono hb.size)
  have hcp := cpt.copy_table ys rs ya ra yc rc w2 HF.out (HY.out.inn hBw2) (HR.out.inn hBw2)
  have x0 : w2.cell? ⟨w.heap.size, 0, none⟩ = some (.slice ya ys.length yc) := bcell b2 rfl
  have x1 : w2.cell? ⟨w.heap.size, 1, none⟩ = some (.slice ra rs.length rc) := bcell b2 rfl
  have HA2 : Hid (w2.heap[w.heap.size]? = some (.cells #[.slice ya ys.length yc, .slice ra rs.length rc] 30 (0, 0))) := b2
  have HP2 : Hid (w2.heap[w.heap.size + 1]? = some (.cells #[.string pk, .string pv, .bool pg] 61 (0, 0))) := s2
  have HR2 : Hid (w2.heap[w.heap.size + 1 + 1]? = some (.cells #[.slice none 0 0, .slice none 0 0] 30 (0, 0))) := r2
  have hs2 : w.heap.size + 3 ≤ w2.heap.size := by have := hb2.size; omega
  clear hok b2 r2 s2 HA HPX HRS hb2
  cases hob : okB ys (rs.map (·.l)) with
  | false =>
    have HC : Hid (withB ys (rs.map (·.l)) ⟨pk, pv, pg⟩ = false) := by show withB ys (rs.map (·.l)) ⟨pk, pv, pg⟩ = false; unfold withB; rw [hob]; rfl
    have HYQ : Hid (withY ys (rs.map (·.l)) ⟨pk, pv, pg⟩ = ys) := by show withY ys (rs.map (·.l)) ⟨pk, pv, pg⟩ = ys; unfold withY; rw [HC.out]; rfl
    clear hob
    go_wp2_with (go_at_call 39; fail)
    clear x0 x1
    refine hcp.mono ?_
    rintro e w3 ⟨g, h, ks, rfl, m3, hg3, hh3, ho3, hor3, hne3, hb3⟩
    have l3 : rs.length = ks.length := by have := congrArg List.length m3; simpa using this.symm
    have r3 := bstay HR2.out hb3 (by omega)
    have r0 : w3.cell? ⟨w.heap.size + 1 + 1, 0, none⟩ = some (.slice none 0 0) := bcell r3 rfl
    have r1 : w3.cell? ⟨w.heap.size + 1 + 1, 1, none⟩ = some (.slice none 0 0) := bcell r3 rfl
    have f0 := bfree r3 0
    have f1 := bfree r3 1
    have HTA : Hid (TA ((w3.setCell ⟨w.heap.size + 1 + 1, 0, none⟩ (.slice (some ⟨g, 0, none⟩) ys.length ys.length)).setCell ⟨w.heap.size + 1 + 1, 1, none⟩ (.slice (some ⟨h, 0, none⟩) rs.length rs.length)) (w.heap.size + 3) (some ⟨g, 0, none⟩) (some ⟨h, 0, none⟩) ys ks) := (ta_set (B := w2.heap.size + 2) l3 (by omega) ho3 hor3 hg3 hh3 hne3 _ _).wide (by omega)
    have HM : Hid (ks.map (·.l) = rs.map (·.l)) := m3
    have HCK : Hid (∀ r ∈ ks, r.l.length ≤ r.c) := fun k hk => by obtain ⟨j, hj⟩ := List.getElem?_of_mem hk; obtain ⟨_, _, hc, _⟩ := hor3.own j k hj; omega
    have HB3 : Hid (Below w.heap.size w w3) := hBw2.trans (hb3.mono hBw2.size)
    clear hcp m3 ho3 hor3 hne3 l3 r3 hb3
    go_wp2
    exact bodyPost_ret (v := .tuple #[.agg #[.slice (some ⟨g, 0, none⟩) ys.length ys.length, .slice (some ⟨h, 0, none⟩) rs.length rs.length], .bool false]) (by simp [results, Tryz.results88, go_sem, r0, r1]) rfl ⟨some ⟨g, 0, none⟩, ys.length, some ⟨h, 0, none⟩, rs.length, ks, by rw [HYQ.out, HC.out], ⟨⟨by rw [HYQ.out]; exact Nat.le_refl _, rfl, HCK.out⟩, HM.out⟩, by rw [HYQ.out]; exact HTA.out, (HB3.out.setCell (show w.heap.size ≤ w.heap.size + 1 + 1 by omega) _).setCell (show w.heap.size ≤ w.heap.size + 1 + 1 by omega) _⟩
  | true =>
    have HOK : Hid (tk.OkT ys (rs.map (·.l))) := okB_true.1 hob
    have HOB : Hid (okB ys (rs.map (·.l)) = true) := hob
    clear hob
    go_wp2_with (go_at_call 39; fail)
    clear x0 x1
    refine hcp.mono ?_
    rintro e w3 ⟨g, h, ks, rfl, m3, hg3, hh3, ho3, hor3, hne3, hb3⟩
    have l3 : rs.length = ks.length := by have := congrArg List.length m3; simpa using this.symm
    have hal : Below w3.heap.size w3 (w3.alloc (.cells #[.slice (some ⟨g, 0, none⟩) ys.length ys.length, .slice (some ⟨h, 0, none⟩) rs.length rs.length] 30)) := (Below.refl _ _).alloc (Nat.le_refl _) _
    have hN := bnew w3 #[.slice (some ⟨g, 0, none⟩) ys.length ys.length, .slice (some ⟨h, 0, none⟩) rs.length rs.length] 30
    have of4 := ho3.below hal ho3.lt
    have or4 := hor3.on hal
    have hgl := ho3.lt
    have hs3 := hb3.size
    obtain ⟨W4, hW4⟩ : ∃ W4, w3.alloc (.cells #[.slice (some ⟨g, 0, none⟩) ys.length ys.length, .slice (some ⟨h, 0, none⟩) rs.length rs.length] 30) = W4 := ⟨_, rfl⟩
    have hsW4 : W4.heap.size = w3.heap.size + 1 := by rw [← hW4]; simp
    rw [hW4] at hal hN of4 or4
    have hB24 : Below w2.heap.size w2 W4 := hb3.trans (hal.mono hs3)
    have hBw4 : Below w.heap.size w W4 := hBw2.trans (hB24.mono hBw2.size)
    have a4 := bstay HA2.out hB24 (by omega)
    have s4 := bstay HP2.out hB24 (by omega)
    have hng : w3.heap.size ≠ g := fun e => own_ne (by decide) of4 hN e.symm
    obtain ⟨n5, hn5⟩ : ∃ n5, (setP ys ⟨pk, pv, pg⟩).length = n5 := ⟨_, rfl⟩
    have SO : Hid (∀ w5, Below W4.heap.size W4 w5 → Calls Tryz.prog 106 #[.slice (some ⟨g, 0, none⟩) ys.length ys.length, .agg #[.string pk, .string pv, .bool pg], .func (.func 68) #[] #[]] w5 fun e w' => ∃ g2 c2, e = .returned (.slice (some ⟨g2, 0, none⟩) n5 c2) ∧ w'.ownsRow (w2.heap.size + 2) 61 3 (.slice (some ⟨g2, 0, none⟩) n5 c2) n5 ((setP ys ⟨pk, pv, pg⟩).flatMap flP.c) ∧ (g2 = g ∨ w5.heap.size ≤ g2) ∧ w5.grownBy w' (some g)) := fun w5 h5 => by
      have := psi.impl_sorted ys g (w2.heap.size + 2) pk pv pg w5 hyl HOK.out.yo.up (by have := h5.size; omega) (own_owns flP.c_len (of4.below h5 (by omega)) hg3 (by unfold maxLen; omega))
      rw [hn5] at this
      exact this
    have N0 : Hid (∀ w5, Below W4.heap.size W4 w5 → w5.cell? ⟨w3.heap.size, 0, none⟩ = some (.slice (some ⟨g, 0, none⟩) ys.length ys.length)) := fun w5 h5 => bcell (bstay hN h5 (by omega)) rfl
    have N6 : Hid (∀ w5 w6, Below W4.heap.size W4 w5 → w5.grownBy w6 (some g) → w6.cell? ⟨w3.heap.size, 0, none⟩ = some (.slice (some ⟨g, 0, none⟩) ys.length ys.length) ∧ w6.frozen? ⟨w3.heap.size, 0, none⟩ = false) := fun w5 w6 h5 h6 => by
      have h := (h6.block _ (by have := h5.size; omega) (fun e => hng (Option.some.inj e))).trans (bstay hN h5 (by omega))
      exact ⟨bcell h rfl, bfree h 0⟩
    have hcpp := cpp.copy_pair ⟨pk, pv, pg⟩ W4.drew ⟨hpk, hpv⟩
    have c0 : W4.cell? ⟨w3.heap.size, 0, none⟩ = some (.slice (some ⟨g, 0, none⟩) ys.length ys.length) := bcell hN rfl
    have q0 : W4.cell? ⟨w.heap.size + 1, 0, none⟩ = some (.string pk) := bcell s4 rfl
    have q1 : W4.cell? ⟨w.heap.size + 1, 1, none⟩ = some (.string pv) := bcell s4 rfl
    have q2 : W4.cell? ⟨w.heap.size + 1, 2, none⟩ = some (.bool pg) := bcell s4 rfl
    have HA4 : Hid (W4.heap[w.heap.size]? = some (.cells #[.slice ya ys.length yc, .slice ra rs.length rc] 30 (0, 0))) := a4
    have HR4 : Hid (W4.heap[w.heap.size + 1 + 1]? = some (.cells #[.slice none 0 0, .slice none 0 0] 30 (0, 0))) := bstay HR2.out hB24 (by omega)
    have HN4 : Hid (W4.heap[w3.heap.size]? = some (.cells #[.slice (some ⟨g, 0, none⟩) ys.length ys.length, .slice (some ⟨h, 0, none⟩) rs.length rs.length] 30 (0, 0))) := hN
    have HOF4 : Hid (Own flP.c 3 61 W4 g ys ys.length) := of4
    have HOR4 : Hid (OR W4 (w2.heap.size + 2) h rs.length ks) := or4
    have HNE : Hid (∀ (i : Nat) (r : Rn), ks[i]? = some r → r.a ≠ some ⟨g, 0, none⟩) := hne3
    have HM : Hid (ks.map (·.l) = rs.map (·.l)) := m3
    have HCK : Hid (∀ r ∈ ks, r.l.length ≤ r.c) := fun k hk => by obtain ⟨j, hj⟩ := List.getElem?_of_mem hk; obtain ⟨_, _, hc, _⟩ := hor3.own j k hj; omega
    have HL : Hid (rs.length = ks.length) := l3
    have HN5 : Hid ((setP ys ⟨pk, pv, pg⟩).length = n5) := hn5
    clear hcp ho3 hor3 hne3 hN of4 or4 m3 l3 hal a4 s4 hn5 HA2 HP2 HR2
    go_wp2
    clear hW4
    go_region_with (first | (go_at_call 38; refine hcpp.mono ?_; rintro e w5 ⟨rfl, hb5⟩; have hb5' : Below W4.heap.size W4 w5 := (Below.refl _ W4).drew.trans hb5; have hso := SO.out w5 hb5'; have n0 := N0.out w5 hb5') | (go_at_call 106; refine hso.mono ?_; rintro e w6 ⟨g2, c2, rfl, hown6, hat6, hgr6⟩; obtain ⟨m0, m1⟩ := N6.out w5 w6 hb5' hgr6))
    all_goals
      have hnx := nx_of hBw4 HA4.out HR4.out HN4.out HOF4.out HOR4.out HNE.out (by omega) (by omega) hb5' hown6 hat6 hgr6
      obtain ⟨X, hX⟩ : ∃ X, w6.setCell ⟨w3.heap.size, 0, none⟩ (.slice (some ⟨g2, 0, none⟩) n5 c2) = X := ⟨_, rfl⟩
      rw [hX] at hnx
      have HNX : Hid (NX w #[.slice ya ys.length yc, .slice ra rs.length rc] (w2.heap.size + 2) w3.heap.size g2 n5 c2 h rs.length ks (setP ys ⟨pk, pv, pg⟩) X) := hnx
      have hok2 := impl_okb (setP ys ⟨pk, pv, pg⟩) ks (some ⟨g2, 0, none⟩) (some ⟨h, 0, none⟩) c2 rs.length X ((fit_with HF.out HOK.out hpk hpv).of HM.out) (row_of flP.c_len rfl (by rw [HN5.out]; exact hnx.ow)) (OR.vr (by rw [← HL.out]; exact hnx.orr))
      rw [HM.out, HN5.out, ← HL.out] at hok2
      have t0 : X.cell? ⟨w3.heap.size, 0, none⟩ = some (.slice (some ⟨g2, 0, none⟩) n5 c2) := bcell hnx.out rfl
      have t1 : X.cell? ⟨w3.heap.size, 1, none⟩ = some (.slice (some ⟨h, 0, none⟩) rs.length rs.length) := bcell hnx.out rfl
      clear hnx hown6 hat6 hgr6 hso n0 hcpp c0 q0 q1 q2 SO N0 N6 hb5 hb5'
      go_wp2_with (go_at_call 26; fail)
      clear hX t0 t1 m0 m1
      refine hok2.mono ?_
      rintro e w7 ⟨rfl, hb7⟩
      have HX7 : Hid (NX w #[.slice ya ys.length yc, .slice ra rs.length rc] (w2.heap.size + 2) w3.heap.size g2 n5 c2 h rs.length ks (setP ys ⟨pk, pv, pg⟩) w7) := HNX.out.on hb7
      clear hok2 hb7 HNX
      cases hob2 : okB (setP ys ⟨pk, pv, pg⟩) (rs.map (·.l)) with
      | true =>
        have HC : Hid (withB ys (rs.map (·.l)) ⟨pk, pv, pg⟩ = true) := by show withB ys (rs.map (·.l)) ⟨pk, pv, pg⟩ = true; unfold withB; rw [HOB.out, hob2]; rfl
        have HYQ : Hid (withY ys (rs.map (·.l)) ⟨pk, pv, pg⟩ = setP ys ⟨pk, pv, pg⟩) := by show withY ys (rs.map (·.l)) ⟨pk, pv, pg⟩ = setP ys ⟨pk, pv, pg⟩; unfold withY; rw [HC.out]; rfl
        have y0 : w7.cell? ⟨w3.heap.size, 0, none⟩ = some (.slice (some ⟨g2, 0, none⟩) n5 c2) := bcell HX7.out.out rfl
        have y1 : w7.cell? ⟨w3.heap.size, 1, none⟩ = some (.slice (some ⟨h, 0, none⟩) rs.length rs.length) := bcell HX7.out.out rfl
        have r0 : w7.cell? ⟨w.heap.size + 1 + 1, 0, none⟩ = some (.slice none 0 0) := bcell HX7.out.res rfl
        have r1 : w7.cell? ⟨w.heap.size + 1 + 1, 1, none⟩ = some (.slice none 0 0) := bcell HX7.out.res rfl
        have f0 := bfree HX7.out.res 0
        have f1 := bfree HX7.out.res 1
        clear hob2
        go_wp2
        exact bodyPost_ret (v := .tuple #[.agg #[.slice (some ⟨g2, 0, none⟩) n5 c2, .slice (some ⟨h, 0, none⟩) rs.length rs.length], .bool true]) (by simp [results, Tryz.results88, go_sem, r0, r1]) rfl ⟨some ⟨g2, 0, none⟩, c2, some ⟨h, 0, none⟩, rs.length, ks, by rw [HYQ.out, HC.out, HN5.out], ⟨⟨by rw [HYQ.out, HN5.out]; exact own_cap HX7.out.ow, rfl, HCK.out⟩, HM.out⟩, by rw [HYQ.out]; exact (HX7.out.ta HL.out HN5.out (by omega) hh3 _ _).wide (by omega), (HX7.out.bel.setCell (show w.heap.size ≤ w.heap.size + 1 + 1 by omega) _).setCell (show w.heap.size ≤ w.heap.size + 1 + 1 by omega) _⟩
      | false =>
        have HC : Hid (withB ys (rs.map (·.l)) ⟨pk, pv, pg⟩ = false) := by show withB ys (rs.map (·.l)) ⟨pk, pv, pg⟩ = false; unfold withB; rw [HOB.out, hob2]; rfl
        have HYQ : Hid (withY ys (rs.map (·.l)) ⟨pk, pv, pg⟩ = ys) := by show withY ys (rs.map (·.l)) ⟨pk, pv, pg⟩ = ys; unfold withY; rw [HC.out]; rfl
        have y0 : w7.cell? ⟨w.heap.size, 0, none⟩ = some (.slice ya ys.length yc) := bcell HX7.out.box rfl
        have y1 : w7.cell? ⟨w.heap.size, 1, none⟩ = some (.slice ra rs.length rc) := bcell HX7.out.box rfl
        have hcp := cpt.copy_table ys rs ya ra yc rc w7 HF.out (HY.out.inn HX7.out.bel) (HR.out.inn HX7.out.bel)
        have hs7 : w.heap.size + 1 + 1 < w7.heap.size := (Array.getElem?_eq_some_iff.1 HX7.out.res).1
        clear hob2
        go_wp2_with (go_at_call 39; fail)
        clear y0 y1
        refine hcp.mono ?_
        rintro e w8 ⟨g8, h8, k8, rfl, m8, hg8, hh8, ho8, hor8, hne8, hb8⟩
        have l8 : rs.length = k8.length := by have := congrArg List.length m8; simpa using this.symm
        have r8 := bstay HX7.out.res hb8 hs7
        have r0 : w8.cell? ⟨w.heap.size + 1 + 1, 0, none⟩ = some (.slice none 0 0) := bcell r8 rfl
        have r1 : w8.cell? ⟨w.heap.size + 1 + 1, 1, none⟩ = some (.slice none 0 0) := bcell r8 rfl
        have f0 := bfree r8 0
        have f1 := bfree r8 1
        have HTA : Hid (TA ((w8.setCell ⟨w.heap.size + 1 + 1, 0, none⟩ (.slice (some ⟨g8, 0, none⟩) ys.length ys.length)).setCell ⟨w.heap.size + 1 + 1, 1, none⟩ (.slice (some ⟨h8, 0, none⟩) rs.length rs.length)) (w.heap.size + 3) (some ⟨g8, 0, none⟩) (some ⟨h8, 0, none⟩) ys k8) := (ta_set (B := w7.heap.size + 2) l8 (by omega) ho8 hor8 hg8 hh8 hne8 _ _).wide (by omega)
        have HM8 : Hid (k8.map (·.l) = rs.map (·.l)) := m8
        have HCK8 : Hid (∀ r ∈ k8, r.l.length ≤ r.c) := fun k hk => by obtain ⟨j, hj⟩ := List.getElem?_of_mem hk; obtain ⟨_, _, hc, _⟩ := hor8.own j k hj; omega
        have HB8 : Hid (Below w.heap.size w w8) := HX7.out.bel.trans (hb8.mono HX7.out.bel.size)
        clear hcp m8 ho8 hor8 hne8 l8 r8 hb8
        go_wp2
        exact bodyPost_ret (v := .tuple #[.agg #[.slice (some ⟨g8, 0, none⟩) ys.length ys.length, .slice (some ⟨h8, 0, none⟩) rs.length rs.length], .bool false]) (by simp [results, Tryz.results88, go_sem, r0, r1]) rfl ⟨some ⟨g8, 0, none⟩, ys.length, some ⟨h8, 0, none⟩, rs.length, k8, by rw [HYQ.out, HC.out], ⟨⟨by rw [HYQ.out]; exact Nat.le_refl _, rfl, HCK8.out⟩, HM8.out⟩, by rw [HYQ.out]; exact HTA.out, (HB8.out.setCell (show w.heap.size ≤ w.heap.size + 1 + 1 by omega) _).setCell (show w.heap.size ≤ w.heap.size + 1 + 1 by omega) _⟩

set_option maxRecDepth 100000 in
set_option maxHeartbeats 4000000 in
theorem impl_put (ys : List flP.Pr) (rs : List Rn) (ya ra : Option Addr) (yc rc : Nat) (xk xv : ByteArray) (w : World) (F : tb.Fit ys rs) (hpk : xk.size ≤ 1048576) (hpv : xv.size ≤ 1048576) (hY : Row flP.c 3 w w.heap.size ya ys) (hR : VR w w.heap.size ra rs) :
    Calls Tryz.prog 61 #[.agg #[.slice ya ys.length yc, .slice ra rs.length rc], .string xk, .string xv] w fun e w' => ∃ sa sc ta tc ks, e = .returned (.tuple #[.agg #[.slice sa (putY ys (rs.map (·.l)) xk xv).length sc, .slice ta (putR ys (rs.map (·.l)) xk xv).length tc], .bool (putB ys (rs.map (·.l)) xk xv)]) ∧ (((putY ys (rs.map (·.l)) xk xv).length ≤ sc ∧ ta.isSome = true ∧ ∀ r ∈ ks, r.l.length ≤ r.c) ∧ ks.map (·.l) = putR ys (rs.map (·.l)) xk xv) ∧ TA w' w.heap.size sa ta (putY ys (rs.map (·.l)) xk xv) ks ∧ Below w.heap.size w w' := by
  have hb : Below w.heap.size w ((w.alloc (.cells #[.slice ya ys.length yc, .slice ra rs.length rc] 30)).alloc (.cells #[.slice none 0 0, .slice none 0 0] 30)) := ((Below.refl _ _).alloc (Nat.le_refl _) _).alloc (by simp) _
  have hA := bold (bnew w #[.slice ya ys.length yc, .slice ra rs.length rc] 30) (.cells #[.slice none 0 0, .slice none 0 0] 30)
  have hRs := bnew (w.alloc (.cells #[.slice ya ys.length yc, .slice ra rs.length rc] 30)) #[.slice none 0 0, .slice none 0 0] 30
  rw [World.size_alloc] at hRs
  obtain ⟨W, hW⟩ : ∃ W, ((w.alloc (.cells #[.slice ya ys.length yc, .slice ra rs.length rc] 30)).alloc (.cells #[.slice none 0 0, .slice none 0 0] 30)) = W := ⟨_, rfl⟩
  rw [hW] at hb hA hRs
  have hwt := impl_with ys rs ya ra yc rc xk xv false W F hpk hpv (hY.inn hb) (hR.inn hb)
  have HRS : Hid (W.heap[w.heap.size + 1]? = some (.cells #[.slice none 0 0, .slice none 0 0] 30 (0, 0))) := hRs
  have hWs := (Array.getElem?_eq_some_iff.1 hRs).1
  have p0 : W.cell? ⟨w.heap.size, 0, none⟩ = some (.slice ya ys.length yc) := bcell hA rfl
  have p1 : W.cell? ⟨w.heap.size, 1, none⟩ = some (.slice ra rs.length rc) := bcell hA rfl
  unfold putY putR putB
  obtain ⟨AY, hAY⟩ : ∃ AY, withY ys (rs.map (·.l)) ⟨xk, xv, false⟩ = AY := ⟨_, rfl⟩
  obtain ⟨AB, hAB⟩ : ∃ AB, withB ys (rs.map (·.l)) ⟨xk, xv, false⟩ = AB := ⟨_, rfl⟩
  rw [hAY, hAB] at hwt ⊢
  clear hY hR hA hRs F hAY hAB
  go_enter Tryz.func61, Tryz.ntmps61
  go_wp2_with (go_at_call 88; fail)
  clear hW p0 p1
  refine hwt.mono ?_
  rintro e w2 ⟨sa, sc, ta, tc, ks, rfl, hm, hta, hb2⟩
  have r2 := bstay HRS.out hb2 hWs
  have r0 : w2.cell? ⟨w.heap.size + 1, 0, none⟩ = some (.slice none 0 0) := bcell r2 rfl
  have r1 : w2.cell? ⟨w.heap.size + 1, 1, none⟩ = some (.slice none 0 0) := bcell r2 rfl
  have f0 := bfree r2 0
  have f1 := bfree r2 1
  have HB : Hid (Below w.heap.size w w2) := hb.trans (hb2.mono hb.size)
  have HTA : Hid (TA w2 (W.heap.size + 3) sa ta AY ks) := hta
  have HM : Hid ((AY.length ≤ sc ∧ ta.isSome = true ∧ ∀ r ∈ ks, r.l.length ≤ r.c) ∧ ks.map (·.l) = rs.map (·.l)) := hm
  clear hwt r2 hta hm hb2
  go_wp2
  have htn : Tn w2 ((w2.setCell ⟨w.heap.size + 1, 0, none⟩ (.slice sa AY.length sc)).setCell ⟨w.heap.size + 1, 1, none⟩ (.slice ta rs.length tc)) (fun k => k = w.heap.size + 1) := Tn.set (Tn.set (Tn.refl w2 (fun k => k = w.heap.size + 1)) (S := fun k => k = w.heap.size + 1) rfl 0 _) rfl 1 _
  exact bodyPost_ret (v := .tuple #[.agg #[.slice sa AY.length sc, .slice ta rs.length tc], .bool AB]) (by simp [results, Tryz.results61, go_sem, r0, r1]) rfl ⟨sa, sc, ta, tc, ks, by rw [List.length_map], HM.out, (HTA.out.turn htn (fun k hk => by omega)).wide (by omega), (HB.out.setCell (Nat.le_succ _) _).setCell (Nat.le_succ _) _⟩

set_option maxRecDepth 100000 in
set_option maxHeartbeats 4000000 in
theorem impl_drop (ys : List flP.Pr) (rs : List Rn) (ya ra : Option Addr) (yc rc : Nat) (xk : ByteArray) (w : World) (F : tb.Fit ys rs) (hpk : xk.size ≤ 1048576) (hY : Row flP.c 3 w w.heap.size ya ys) (hR : VR w w.heap.size ra rs) :
    Calls Tryz.prog 60 #[.agg #[.slice ya ys.length yc, .slice ra rs.length rc], .string xk] w fun e w' => ∃ sa sc ta tc ks, e = .returned (.tuple #[.agg #[.slice sa (dropY ys (rs.map (·.l)) xk).length sc, .slice ta (dropR ys (rs.map (·.l)) xk).length tc], .bool (dropB ys (rs.map (·.l)) xk)]) ∧ (((dropY ys (rs.map (·.l)) xk).length ≤ sc ∧ ta.isSome = true ∧ ∀ r ∈ ks, r.l.length ≤ r.c) ∧ ks.map (·.l) = dropR ys (rs.map (·.l)) xk) ∧ TA w' w.heap.size sa ta (dropY ys (rs.map (·.l)) xk) ks ∧ Below w.heap.size w w' := by
  have hb : Below w.heap.size w ((w.alloc (.cells #[.slice ya ys.length yc, .slice ra rs.length rc] 30)).alloc (.cells #[.slice none 0 0, .slice none 0 0] 30)) := ((Below.refl _ _).alloc (Nat.le_refl _) _).alloc (by simp) _
  have hA := bold (bnew w #[.slice ya ys.length yc, .slice ra rs.length rc] 30) (.cells #[.slice none 0 0, .slice none 0 0] 30)
  have hRs := bnew (w.alloc (.cells #[.slice ya ys.length yc, .slice ra rs.length rc] 30)) #[.slice none 0 0, .slice none 0 0] 30
  rw [World.size_alloc] at hRs
  obtain ⟨W, hW⟩ : ∃ W, ((w.alloc (.cells #[.slice ya ys.length yc, .slice ra rs.length rc] 30)).alloc (.cells #[.slice none 0 0, .slice none 0 0] 30)) = W := ⟨_, rfl⟩
  rw [hW] at hb hA hRs
  have hwt := impl_with ys rs ya ra yc rc xk ⟨#[]⟩ true W F hpk (by decide) (hY.inn hb) (hR.inn hb)
  have HRS : Hid (W.heap[w.heap.size + 1]? = some (.cells #[.slice none 0 0, .slice none 0 0] 30 (0, 0))) := hRs
  have hWs := (Array.getElem?_eq_some_iff.1 hRs).1
  have p0 : W.cell? ⟨w.heap.size, 0, none⟩ = some (.slice ya ys.length yc) := bcell hA rfl
  have p1 : W.cell? ⟨w.heap.size, 1, none⟩ = some (.slice ra rs.length rc) := bcell hA rfl
  unfold dropY dropR dropB
  obtain ⟨AY, hAY⟩ : ∃ AY, withY ys (rs.map (·.l)) ⟨xk, ⟨#[]⟩, true⟩ = AY := ⟨_, rfl⟩
  obtain ⟨AB, hAB⟩ : ∃ AB, withB ys (rs.map (·.l)) ⟨xk, ⟨#[]⟩, true⟩ = AB := ⟨_, rfl⟩
  rw [hAY, hAB] at hwt ⊢
  clear hY hR hA hRs F hAY hAB
  go_enter Tryz.func60, Tryz.ntmps60
  go_wp2_with (go_at_call 88; fail)
  clear hW p0 p1
  refine hwt.mono ?_
  rintro e w2 ⟨sa, sc, ta, tc, ks, rfl, hm, hta, hb2⟩
  have r2 := bstay HRS.out hb2 hWs
  have r0 : w2.cell? ⟨w.heap.size + 1, 0, none⟩ = some (.slice none 0 0) := bcell r2 rfl
  have r1 : w2.cell? ⟨w.heap.size + 1, 1, none⟩ = some (.slice none 0 0) := bcell r2 rfl
  have f0 := bfree r2 0
  have f1 := bfree r2 1
  have HB : Hid (Below w.heap.size w w2) := hb.trans (hb2.mono hb.size)
  have HTA : Hid (TA w2 (W.heap.size + 3) sa ta AY ks) := hta
  have HM : Hid ((AY.length ≤ sc ∧ ta.isSome = true ∧ ∀ r ∈ ks, r.l.length ≤ r.c) ∧ ks.map (·.l) = rs.map (·.l)) := hm
  clear hwt r2 hta hm hb2
  go_wp2
  have htn : Tn w2 ((w2.setCell ⟨w.heap.size + 1, 0, none⟩ (.slice sa AY.length sc)).setCell ⟨w.heap.size + 1, 1, none⟩ (.slice ta rs.length tc)) (fun k => k = w.heap.size + 1) := Tn.set (Tn.set (Tn.refl w2 (fun k => k = w.heap.size + 1)) (S := fun k => k = w.heap.size + 1) rfl 0 _) rfl 1 _
  exact bodyPost_ret (v := .tuple #[.agg #[.slice sa AY.length sc, .slice ta rs.length tc], .bool AB]) (by simp [results, Tryz.results60, go_sem, r0, r1]) rfl ⟨sa, sc, ta, tc, ks, by rw [List.length_map], HM.out, (HTA.out.turn htn (fun k hk => by omega)).wide (by omega), (HB.out.setCell (Nat.le_succ _) _).setCell (Nat.le_succ _) _⟩

end Go.Proofs.YtoemkbooomgieaaGreatDoor.pti

/- Tables, without memory: what is scanned is what is got; what a pair that is put changes. -/
namespace Go.Proofs.YtoemkbooomgieaaGreatDoor.tpu
open Go.Proofs.YtoemkbooomgieaaGreatDoor.rc Go.Proofs.YtoemkbooomgieaaGreatDoor.ro Go.Proofs.YtoemkbooomgieaaGreatDoor.rn Go.Proofs.YtoemkbooomgieaaGreatDoor.tk Go.Proofs.YtoemkbooomgieaaGreatDoor.tko Go.Proofs.YtoemkbooomgieaaGreatDoor.tg Go.Proofs.YtoemkbooomgieaaGreatDoor.tgi Go.Proofs.YtoemkbooomgieaaGreatDoor.ptp Go.Proofs.YtoemkbooomgieaaGreatDoor.mgp Go.Proofs.YtoemkbooomgieaaGreatDoor.sci
set_option linter.unusedVariables false

theorem fnd_iff {l : List flP.Pr} (hA : Asc l) {key : ByteArray} {e : flP.Pr} : fnd l key = some e ↔ e ∈ l ∧ e.k = key := by
  unfold fnd
  constructor
  · intro h
    exact ⟨List.mem_of_find?_eq_some h, by simpa using List.find?_some h⟩
  · rintro ⟨h1, h2⟩
    cases hf : l.find? (fun e => decide (e.k = key)) with
    | none =>
      have := List.find?_eq_none.1 hf e h1
      simp [h2] at this
    | some f =>
      have f1 := List.mem_of_find?_eq_some hf
      have f2 : f.k = key := by simpa using List.find?_some hf
      rw [asc_key hA f1 h1 (f2.trans h2.symm)]
theorem fnd_no {l : List flP.Pr} {key : ByteArray} : fnd l key = none ↔ ∀ e ∈ l, e.k ≠ key := by
  unfold fnd
  rw [List.find?_eq_none]
  simp
theorem new_cons {a : List flP.Pr} {ls : List (List flP.Pr)} {x : flP.Pr} : New (a :: ls) x ↔ x ∈ a ∨ ((∀ y ∈ a, y.k ≠ x.k) ∧ New ls x) := by
  constructor
  · rintro ⟨i, l, h1, h2, h3⟩
    cases i with
    | zero => simp at h1; subst h1; exact .inl h2
    | succ i => exact .inr ⟨h3 0 a (Nat.succ_pos _) rfl, i, l, by simpa using h1, h2, fun j m hj hm => h3 (j + 1) m (by omega) (by simpa using hm)⟩
  · rintro (h | ⟨h1, i, l, h2, h3, h4⟩)
    · exact ⟨0, a, rfl, h, fun j m hj => by omega⟩
    · refine ⟨i + 1, l, by simpa using h2, h3, fun j m hj hm => ?_⟩
      cases j with
      | zero => simp at hm; subst hm; exact h1
      | succ j => exact h4 j m (by omega) (by simpa using hm)
theorem new_nil {x : flP.Pr} : ¬ New [] x := by rintro ⟨i, l, h1, _⟩; simp at h1
theorem is_some : ∀ {ls : List (List flP.Pr)}, (∀ l ∈ ls, Asc l) → ∃ out, Is ls out
  | [], _ => ⟨[], List.Pairwise.nil, fun x => ⟨fun h => (by cases h), fun h => absurd h new_nil⟩⟩
  | a :: ls, h => by
    obtain ⟨out, h1⟩ := is_some (ls := ls) (fun l hl => h l (List.mem_cons_of_mem _ hl))
    have h2 := (mga.is_nw (h a (List.mem_cons_self ..)) h1.1).1
    refine ⟨_, h2.1, fun x => (h2.2 x).trans ?_⟩
    have e1 : New [a, out] x ↔ x ∈ a ∨ ((∀ y ∈ a, y.k ≠ x.k) ∧ x ∈ out) := by
      refine new_cons.trans (or_congr Iff.rfl (and_congr Iff.rfl ⟨fun h4 => ?_, fun h4 => new_cons.2 (.inl h4)⟩))
      rcases new_cons.1 h4 with h4 | ⟨_, h4⟩
      · exact h4
      · exact absurd h4 new_nil
    have e2 : New (a :: ls) x ↔ x ∈ a ∨ ((∀ y ∈ a, y.k ≠ x.k) ∧ New ls x) := new_cons
    exact e1.trans ((or_congr Iff.rfl (and_congr Iff.rfl (h1.2 x))).trans e2.symm)
theorem is_nwL {ls : List (List flP.Pr)} (h : ∀ l ∈ ls, Asc l) : Is ls (nwL ls) := by
  obtain ⟨out, h1⟩ := is_some h
  rw [nwL_eq h1]
  exact h1
theorem nw_cons (a : List flP.Pr) (ls : List (List flP.Pr)) (key : ByteArray) : nwst (a :: ls) key = (fnd a key).or (nwst ls key) := by
  unfold nwst
  rw [List.findSome?_cons]
  cases fnd a key <;> rfl
theorem new_nw : ∀ {ls : List (List flP.Pr)} {x : flP.Pr}, (∀ l ∈ ls, Asc l) → New ls x → nwst ls x.k = some x
  | [], x, _, h => absurd h new_nil
  | a :: ls, x, hA, h => by
    rw [nw_cons]
    rcases new_cons.1 h with h | ⟨h1, h2⟩
    · rw [(fnd_iff (hA a (List.mem_cons_self ..))).2 ⟨h, rfl⟩]
      rfl
    · rw [fnd_no.2 h1, new_nw (fun l hl => hA l (List.mem_cons_of_mem _ hl)) h2]
      rfl
theorem nw_new : ∀ {ls : List (List flP.Pr)} {x : flP.Pr} {key : ByteArray}, (∀ l ∈ ls, Asc l) → nwst ls key = some x → New ls x ∧ x.k = key
  | [], x, key, _, h => by cases h
  | a :: ls, x, key, hA, h => by
    rw [nw_cons] at h
    cases hf : fnd a key with
    | some y =>
      rw [hf] at h
      cases h
      have h1 := (fnd_iff (hA a (List.mem_cons_self ..))).1 hf
      exact ⟨new_cons.2 (.inl h1.1), h1.2⟩
    | none =>
      rw [hf] at h
      obtain ⟨h1, h2⟩ := nw_new (fun l hl => hA l (List.mem_cons_of_mem _ hl)) h
      exact ⟨new_cons.2 (.inr ⟨by rw [h2]; exact fnd_no.1 hf, h1⟩), h2⟩
section
variable {ys : List flP.Pr} {R : List (List flP.Pr)}
theorem all_asc (h : OkT ys R) : ∀ l ∈ ys :: R, Asc l := fun l hl => by
  rcases List.mem_cons.1 hl with rfl | hl
  · exact asc_of h.yo.up
  · obtain ⟨i, hi⟩ := List.getElem?_of_mem hl
    exact asc_of (h.ro i l hi).up
theorem lt_of_keep {f : flP.Pr → Bool} {l : List flP.Pr} (h : Asc l) {i : Nat} {a b : flP.Pr} (ha : (l.filter f)[i]? = some a) (hb : (l.filter f)[i + 1]? = some b) : lt a.k b.k = true := by
  have h1 : Asc (l.filter f) := List.Pairwise.filter f h
  have ia := List.getElem?_eq_some_iff.1 ha
  have ib := List.getElem?_eq_some_iff.1 hb
  have := (List.pairwise_iff_getElem.1 h1) i (i + 1) ia.1 ib.1 (Nat.lt_succ_self i)
  rwa [ia.2, ib.2] at this
/-- what is scanned ascends -/
theorem scan_up {fr to : ByteArray} {i : Nat} {a b : flP.Pr} (ha : (scan ys R fr to)[i]? = some a) (hb : (scan ys R fr to)[i + 1]? = some b) : lt a.k b.k = true := by
  unfold scan at ha hb
  split at ha
  · next hok =>
    rw [if_pos hok] at hb
    exact lt_of_keep (is_nwL (all_asc (okB_true.1 hok))).1 ha hb
  · simp at ha
theorem scan_size {fr to : ByteArray} {n : Nat} {e : flP.Pr} (h : e ∈ scan ys R fr to) (hy : ∀ e ∈ ys, e.k.size ≤ n ∧ e.v.size ≤ n) (hR : ∀ l ∈ R, ∀ e ∈ l, e.k.size ≤ n ∧ e.v.size ≤ n) : e.k.size ≤ n ∧ e.v.size ≤ n := by
  unfold scan at h
  split at h
  · next hok =>
    obtain ⟨h1, h2⟩ := List.mem_filter.1 h
    obtain ⟨i, l, g1, g2, _⟩ := ((is_nwL (all_asc (okB_true.1 hok))).2 e).1 h1
    cases i with
    | zero => simp at g1; subst g1; exact hy e g2
    | succ i => exact hR l (List.mem_of_getElem? (by simpa using g1)) e g2
  · cases h
end
end Go.Proofs.YtoemkbooomgieaaGreatDoor.tpu
