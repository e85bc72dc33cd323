/- slices.DeleteFunc and slices.IndexFunc at a row of pairs, asked by isGone: the pairs that are Gone are struck. -/
import Derived.Test.YtoemkbooomgieaaGreatDoorDw01
import Derived.Test.YtoemkbooomgieaaGreatDoorRunLib
import Derived.Test.YtoemkbooomgieaaGreatDoorFlatOwn
import Derived.Deep.DeepAppendWide
import Derived.Laws.CopyOwn
import Derived.Test.YtoemkbooomgieaaGreatDoorDw03
import Derived.Deep.QuietTactic
import Derived.BigQuiet
import Derived.Test.YtoemkbooomgieaaGreatDoorFlPair
import Derived.Test.YtoemkbooomgieaaGreatDoorFlatOff
import Derived.Lib.SliceRun

/- slices.Insert of one run into a row of runs that has no room: the same row with it in its place, in a row of its own. -/
namespace Go.Proofs.YtoemkbooomgieaaGreatDoor.insr
open Go.ChangeShapes Go.WideShapes Go.ChangeAt Go.RowKit Go.Proofs.YtoemkbooomgieaaGreatDoor.rn Go.Proofs.YtoemkbooomgieaaGreatDoor.fl
set_option linter.unusedVariables false

theorem infoX : ∃ i0, Tryz.prog.info? 28 = some i0 ∧ i0.zero = some (.slice none 0 0) ∧ i0.size = 1 ∧ i0.bytes = 24 := by
  have h := rn.info
  cases hh : Tryz.prog.info? 28 with
  | none => rw [hh] at h; cases h
  | some i => rw [hh] at h; simp at h; exact ⟨i, rfl, h.1, h.2.1, h.2.2⟩
theorem own_form {w : World} {B n : Nat} {U : TypeId} {s : Nat} {v : Value} {xs : List Value} (h : w.ownsRow B U s v (n + 1) xs) : ∃ g cap, v = .slice (some ⟨g, 0, none⟩) (n + 1) cap := by
  obtain ⟨_, ⟨rfl, h0⟩ | ⟨g, cap, cur, rfl, _⟩⟩ := h
  · omega
  · exact ⟨g, cap, rfl⟩
theorem owns_at {w : World} {B n s g c : Nat} {U : TypeId} {xs : List Value} (h : w.ownsRow B U s (.slice (some ⟨g, 0, none⟩) n c) n xs) : B ≤ g ∧ ∃ cur, w.heap[g]? = some (.cells cur U (0, 0)) := by
  obtain ⟨_, ⟨h1, _⟩ | ⟨g', cap', cur, h1, h2, h3, _⟩⟩ := h
  · cases h1
  cases h1
  exact ⟨h2, cur, h3⟩
theorem add_at (g o j : Nat) : (⟨g, o, none⟩ : Addr).add j = ⟨g, o + j, none⟩ := by unfold Addr.add; split <;> simp_all
theorem oneX (ms : List Rn) : ∀ u ∈ ms.flatMap cR, u.oneCell' = true := fun u hu => by
  obtain ⟨e, _, he⟩ := List.mem_flatMap.1 hu
  simp [cR] at he
  rw [he]; rfl
/-- the cells of an owned row -/
theorem owns_cells {α : Type} {c : α → List Value} {n B g cap : Nat} {U : TypeId} {l : List α} {w : World} (hn : ∀ e, (c e).length = n) (h : w.ownsRow B U n (.slice (some ⟨g, 0, none⟩) l.length cap) l.length (l.flatMap c)) : ∀ (j : Nat) (u : Value), (l.flatMap c)[j]? = some u → w.cell? ⟨g, j, none⟩ = some u := fun j u hu => by
  obtain ⟨_, ⟨h1, _⟩ | ⟨g', cap', cur, h1, h2, h3, h4, h5, h6, h7⟩⟩ := h
  · cases h1
  cases h1
  rw [← h7] at hu
  have hlt := (List.getElem?_eq_some_iff.1 hu).1
  rw [List.length_take] at hlt
  rw [List.getElem?_take_of_lt (by omega)] at hu
  exact bcell h3 (by simpa using hu)
theorem flat_take {α : Type} {c : α → List Value} (l : List α) (i : Nat) : (l.take i).flatMap c ++ (l.drop i).flatMap c = l.flatMap c := by rw [← List.flatMap_append, List.take_append_drop]
/-- two copies into a row: what was ahead, what is put in, what stood from there on -/
theorem two_copies {xs v cs rest : List Value} {o1 o2 : Nat} (h1 : xs.length = o1) (h2 : o1 + v.length = o2) (hr : v.length + cs.length ≤ rest.length) :
    (((xs ++ rest).take o1 ++ v ++ (xs ++ rest).drop (o1 + v.length)).take o2 ++ cs ++ ((xs ++ rest).take o1 ++ v ++ (xs ++ rest).drop (o1 + v.length)).drop (o2 + cs.length)) = xs ++ v ++ cs ++ rest.drop (v.length + cs.length) := by
  subst h1
  subst h2
  rw [List.take_left, List.drop_append, List.drop_eq_nil_of_le (by omega), List.nil_append, show xs.length + v.length - xs.length = v.length by omega]
  have e1 : (xs ++ v).length = xs.length + v.length := List.length_append
  rw [← e1, List.take_left, List.drop_append, List.drop_eq_nil_of_le (by omega), List.nil_append, List.drop_drop]
  congr 2
  omega
/-- the row behind it is owned -/
theorem owns_new {B g cap n : Nat} {U : TypeId} {w : World} {cur : Array Value} {ys tl : List Value} (hg : w.heap[g]? = some (.cells cur U (0, 0))) (hB : B ≤ g) (hc : cur.toList = ys ++ tl) (hy : ys.length = n * 1) (hn : n ≤ cap) (hm : cap ≤ maxLen) (hs : cur.size = cap * 1) : w.ownsRow B U 1 (.slice (some ⟨g, 0, none⟩) n cap) n ys :=
  ⟨hy, .inr ⟨g, cap, cur, rfl, hB, hg, hn, hm, hs, by rw [hc, ← hy, List.take_left]⟩⟩

def ws (b g i n G : Nat) : List (Nat × Value) := [(46, .slice (some ⟨b, 0, none⟩) (n + 1) G), (47, .int .i64 i), (48, .int .i64 1), (49, .int .i64 ((i : Int) + 1)), (50, .slice (some ⟨b, (i + 1), none⟩) (n - i) (G - (i + 1))), (51, .slice (some ⟨g, 0, none⟩) n n), (52, .int .i64 i), (53, .slice (some ⟨g, i, none⟩) (n - i) (n - i)), (54, .int .i64 ((n - i : Nat) : Int))]

set_option maxRecDepth 100000 in
set_option maxHeartbeats 4000000 in
theorem insert_mid (l : List Rn) (g i B : Nat) (xa : Option Addr) (xc : Nat) (xl : List flP.Pr) (ga : Nat) (w : World) (hi : i < l.length) (hl : l.length ≤ 1048576) (hB : B ≤ w.heap.size) (ho : w.ownsRow B 28 1 (.slice (some ⟨g, 0, none⟩) l.length l.length) l.length (l.flatMap cR)) (ha : w.heap[ga]? = some (.cells #[.slice xa xl.length xc] 28 (0, 0))) :
    Calls Tryz.prog 89 #[.slice (some ⟨g, 0, none⟩) l.length l.length, .int .i64 i, .slice (some ⟨ga, 0, none⟩) 1 1] w fun r w' => ∃ g2 c2, r = .returned (.slice (some ⟨g2, 0, none⟩) (l.length + 1) c2) ∧ w'.ownsRow B 28 1 (.slice (some ⟨g2, 0, none⟩) (l.length + 1) c2) (l.length + 1) ((l.take i ++ ⟨xa, xc, xl⟩ :: l.drop i).flatMap cR) ∧ Below w.heap.size w w' := by
  obtain ⟨i1, ki, kz0, kz1, kz2⟩ := infoX
  have hcells := owns_cells cR_len ho
  have hgl : g < w.heap.size := by obtain ⟨_, cur, hcur⟩ := owns_at ho; exact (Array.getElem?_eq_some_iff.1 hcur).1
  have hgal := (Array.getElem?_eq_some_iff.1 ha).1
  obtain ⟨n, hn⟩ : ∃ n, l.length = n := ⟨_, rfl⟩
  have hxl : ((l.take i).flatMap cR).length = i * 1 := by rw [flat_len cR_len, List.length_take]; congr 1; omega
  have hdl : ((l.drop i).flatMap cR).length = (n - i) * 1 := by rw [flat_len cR_len, List.length_drop, hn]
  have hxc : ∀ (j : Nat) (u : Value), ((l.take i).flatMap cR)[j]? = some u → w.cell? ((⟨g, 0, none⟩ : Addr).add j) = some u := fun j u hu => by
    rw [add_at, Nat.zero_add]
    refine hcells j u ?_
    rw [← flat_take l i, List.getElem?_append_left (List.getElem?_eq_some_iff.1 hu).1]
    exact hu
  have hdc : ∀ (j : Nat) (u : Value), ((l.drop i).flatMap cR)[j]? = some u → w.cell? ((⟨g, i * 1, none⟩ : Addr).add j) = some u := fun j u hu => by
    rw [add_at]
    refine hcells (i * 1 + j) u ?_
    rw [← flat_take l i, List.getElem?_append_right (by rw [hxl]; omega), hxl, show i * 1 + j - i * 1 = j by omega]
    exact hu
  rw [hn] at hi hl
  simp only [hn]
  have hz := fun ty => az.run_append_zeros (P := Tryz.prog) w 24 3 ty 28 i1 _ Tryz.underlying24 Tryz.underlying3 ki kz0 ⟨g, 0, none⟩ i n ((l.take i).flatMap cR) (by rw [hxl, kz1]) hxc (n + 1 - i) (by rw [kz1]; omega) (by omega) (by omega) (by rw [kz2]; omega) (by rw [kz2]; exact growslice_fits_wide (by omega) (by omega))
  rw [show i + (n + 1 - i) = n + 1 by omega] at hz
  have hG1 := grownCap_ge w (n + 1) n 28
  have hG2 := grownCap_le_maxLen w (n + 1) n 28 (by unfold maxLen; omega)
  obtain ⟨G, hG⟩ : ∃ G, grownCap w (n + 1) n 28 = G := ⟨_, rfl⟩
  rw [hG] at hz hG1 hG2
  obtain ⟨rest, hrest⟩ : ∃ rest : List Value, rest.length = (G - i) * 1 ∧ ∀ zc : Array Value, zc = (Value.slice none 0 0).cells → (((l.take i).flatMap cR).toArray ++ Builtin.zeroCells zc (n + 1 - i) ++ Builtin.zeroCells zc (G - (n + 1))) = (((l.take i).flatMap cR) ++ rest).toArray := by
    refine ⟨(Builtin.zeroCells (Value.slice none 0 0).cells (n + 1 - i) ++ Builtin.zeroCells (Value.slice none 0 0).cells (G - (n + 1))).toList, ?_, ?_⟩
    · simp [size_zeroCells, Value.cells]; omega
    · rintro zc rfl; simp
  have hrow := hrest.2 _ rfl
  rw [hrow] at hz
  have hk : (n : Int) + 1 - (i : Int) = ((n + 1 - i : Nat) : Int) := by omega
  rw [← hk] at hz
  obtain ⟨xs, hxs⟩ : ∃ xs, (l.take i).flatMap cR = xs := ⟨_, rfl⟩
  obtain ⟨cs, hcs⟩ : ∃ cs, (l.drop i).flatMap cR = cs := ⟨_, rfl⟩
  rw [hxs] at hz hxl
  rw [hcs] at hdl hdc
  have hfl : (l.take i ++ ⟨xa, xc, xl⟩ :: l.drop i).flatMap cR = xs ++ [Value.slice xa xl.length xc] ++ cs := by rw [← hxs, ← hcs]; simp [cR]
  rw [hfl]
  have hone : ∀ u ∈ cs, u.oneCell' = true := by rw [← hcs]; exact oneX _
  have hg1 : (w.drew.alloc (.cells (xs ++ rest).toArray 28)).heap[w.heap.size]? = some (.cells (xs ++ rest).toArray 28 (0, 0)) := bnew w.drew _ _
  have hb1 : Below w.heap.size w (w.drew.alloc (.cells (xs ++ rest).toArray 28)) := (Below.refl _ w).drew.alloc (Nat.le_refl _) _
  obtain ⟨W1, hW1⟩ : ∃ W1, w.drew.alloc (.cells (xs ++ rest).toArray 28) = W1 := ⟨_, rfl⟩
  rw [hW1] at hz hg1 hb1
  have hav := bstay ha hb1 hgal
  have hrl := hrest.1
  have hmin1 : Nat.min 1 (n + 1 - i) = 1 := Nat.min_eq_left (by omega)
  have hmin2 : Nat.min (n - i) (n - i) = n - i := Nat.min_self _
  have hc1 := fun ty => cpr.run_copy_rows (P := Tryz.prog) W1 24 24 ty 28 i1 w.heap.size (i * 1) (n + 1 - i) (G - i) ⟨ga, 0, none⟩ 1 1 (xs ++ rest).toArray 28 [Value.slice xa xl.length xc] Tryz.underlying24 ki hg1 (by rw [kz1, hmin1]; rfl) (fun j u hu => by
    rw [add_at, Nat.zero_add]
    match j, hu with
    | 0, hu => cases hu; exact bcell hav rfl
    | j + 1, hu => simp at hu) (by simp; omega) (by simp [Value.oneCell'])
  rw [hmin1] at hc1
  simp only [show ([Value.slice xa xl.length xc] : List Value).length = 1 from rfl] at hc1
  obtain ⟨A1, hA1⟩ : ∃ A1 : List Value, (xs ++ rest).take (i * 1) ++ [Value.slice xa xl.length xc] ++ (xs ++ rest).drop (i * 1 + 1) = A1 := ⟨_, rfl⟩
  rw [hA1] at hc1
  have hA1l : A1.length = i * 1 + (G - i) * 1 := by rw [← hA1]; simp; omega
  have hg2 : (W1.setRow w.heap.size A1.toArray).heap[w.heap.size]? = some (.cells A1.toArray 28 (0, 0)) := setRow_heap W1 w.heap.size _ _ 28 _ hg1
  have hb2 : Below w.heap.size w (W1.setRow w.heap.size A1.toArray) := below_setRow hb1 (Nat.le_refl _) _
  obtain ⟨W2, hW2⟩ : ∃ W2, W1.setRow w.heap.size A1.toArray = W2 := ⟨_, rfl⟩
  rw [hW2] at hc1 hg2 hb2
  have hc2 := fun ty => cpr.run_copy_rows (P := Tryz.prog) W2.drew 24 24 ty 28 i1 w.heap.size ((i + 1) * 1) (n - i) (G - (i + 1)) ⟨g, i * 1, none⟩ (n - i) (n - i) A1.toArray 28 cs Tryz.underlying24 ki hg2 (by rw [kz1, hmin2, hdl]) (fun j u hu => by
    have := hdc j u hu
    rw [add_at] at this ⊢
    exact (hb2.drew.cell (p := ⟨g, i * 1 + j, none⟩) hgl).trans this) (by rw [hdl]; simp; omega) hone
  rw [hmin2] at hc2
  have hc2 := fun ty => (hc2 ty).trans rfl
  have htwo : A1.take ((i + 1) * 1) ++ cs ++ A1.drop ((i + 1) * 1 + cs.length) = xs ++ [Value.slice xa xl.length xc] ++ cs ++ rest.drop (1 + cs.length) := by
    rw [← hA1]
    exact two_copies (v := [Value.slice xa xl.length xc]) hxl (by show i * 1 + 1 = (i + 1) * 1; omega) (by show 1 + cs.length ≤ rest.length; omega)
  rw [htwo] at hc2
  have hg3 : (W2.drew.setRow w.heap.size (xs ++ [Value.slice xa xl.length xc] ++ cs ++ rest.drop (1 + cs.length)).toArray).heap[w.heap.size]? = some (.cells (xs ++ [Value.slice xa xl.length xc] ++ cs ++ rest.drop (1 + cs.length)).toArray 28 (0, 0)) := setRow_heap W2.drew w.heap.size _ _ 28 _ hg2
  have hb3 : Below w.heap.size w (W2.drew.setRow w.heap.size (xs ++ [Value.slice xa xl.length xc] ++ cs ++ rest.drop (1 + cs.length)).toArray) := below_setRow hb2.drew (Nat.le_refl _) _
  have hown : (W2.drew.setRow w.heap.size (xs ++ [Value.slice xa xl.length xc] ++ cs ++ rest.drop (1 + cs.length)).toArray).ownsRow B 28 1 (.slice (some ⟨w.heap.size, 0, none⟩) (n + 1) G) (n + 1) (xs ++ [Value.slice xa xl.length xc] ++ cs) :=
    owns_new (tl := rest.drop (1 + cs.length)) hg3 hB (by simp) (by simp; omega) hG1 hG2 (by simp; omega)
  obtain ⟨W3, hW3⟩ : ∃ W3, W2.drew.setRow w.heap.size (xs ++ [Value.slice xa xl.length xc] ++ cs ++ rest.drop (1 + cs.length)).toArray = W3 := ⟨_, rfl⟩
  rw [hW3] at hc2 hb3 hown
  have HB3 : Hid (Below w.heap.size w W3) := hb3
  have HOWN : Hid (W3.ownsRow B 28 1 (.slice (some ⟨w.heap.size, 0, none⟩) (n + 1) G) (n + 1) (xs ++ [Value.slice xa xl.length xc] ++ cs)) := hown
  have i9 : IntKind.i64.wrap ((i : Int) + 1) = (i : Int) + 1 := by rw [IntKind.wrap_i64]; omega
  have r1 : i ≤ n := by omega
  have r2 : (0 : Int) ≤ (i : Int) + 1 := by omega
  have r3 : ¬ G = i + 1 := by omega
  have r4 : ¬ n = i := by omega
  have q1 : ¬ (i : Int) = (n : Int) := by omega
  have q2 : i < G := by omega
  have q3 : i + 1 < G := by omega
  have q4 : (n : Int) < (n : Int) + 1 := by omega
  have q5 : n - i ≠ 0 := by omega
  simp only [Nat.mul_one] at hc1 hc2
  clear hcells hxc hdc ho ha hrest hrow hav hg1 hg2 hg3 hb1 hb2 hb3 hown hA1 htwo hW1 hW2 hW3 hone hfl hxs hcs hk hG
  go_enter Tryz.func89, Tryz.ntmps89
  go_wp2_with (at_builtin; first | refine cpr.wpList_append_run rfl _ _ 24 3 rfl _ _ _ rfl rfl (hz _) ?_ | refine cpr.wpList_copy_run rfl _ _ 24 24 rfl _ _ _ rfl rfl (hc1 _) ?_)
  refine dk.region_sets (ws w.heap.size g i n G) [46, 47, 48, 49, 50, 51, 52, 53, 54] (dk.Cl (fun b W => W = if b then W3 else W2.drew) 8) (by kernel_rfl) (by kernel_rfl) rfl (by kernel_rfl) rfl ?each ?fin
  case each =>
    refine ⟨dk.q (by decide) (.slice (some ⟨w.heap.size, 0, none⟩) (n + 1) G) (by rintro _ ⟨⟩; exact dk.sets_on _ (by simp) _ rfl) (fun b W h => by simp [execOp, go_sem, Act.eval, dk.sets_get, ws, List.lookup]), ?_⟩
    refine ⟨dk.q (by decide) (.int .i64 i) (by rintro _ ⟨⟩; exact dk.sets_on _ (by simp) _ rfl) (fun b W h => by simp [execOp, go_sem, Act.eval, dk.sets_get, ws, List.lookup]), ?_⟩
    refine ⟨dk.q (by decide) (.int .i64 1) (by rintro _ ⟨⟩; exact dk.sets_on _ (by simp) _ rfl) (fun b W h => by simp [execOp, go_sem, Act.eval, dk.sets_get, ws, List.lookup]), ?_⟩
    refine ⟨dk.q (by decide) (.int .i64 ((i : Int) + 1)) (by rintro _ ⟨⟩; exact dk.sets_on _ (by simp) _ rfl) (fun b W h => by simp [execOp, go_sem, Act.eval, dk.sets_get, ws, List.lookup, i9]), ?_⟩
    refine ⟨dk.q (by decide) (.slice (some ⟨w.heap.size, (i + 1), none⟩) (n - i) (G - (i + 1))) (by rintro _ ⟨⟩; exact dk.sets_on _ (by simp) _ rfl) (fun b W h => by simp [execOp, go_sem, Act.eval, dk.sets_get, ws, List.lookup, r1, r2, r3]), ?_⟩
    refine ⟨dk.q (by decide) (.slice (some ⟨g, 0, none⟩) n n) (by rintro _ ⟨⟩; exact dk.sets_on _ (by simp) _ rfl) (fun b W h => by simp [execOp, go_sem, Act.eval, dk.sets_get, ws, List.lookup]), ?_⟩
    refine ⟨dk.q (by decide) (.int .i64 i) (by rintro _ ⟨⟩; exact dk.sets_on _ (by simp) _ rfl) (fun b W h => by simp [execOp, go_sem, Act.eval, dk.sets_get, ws, List.lookup]), ?_⟩
    refine ⟨dk.q (by decide) (.slice (some ⟨g, i, none⟩) (n - i) (n - i)) (by rintro _ ⟨⟩; exact dk.sets_on _ (by simp) _ rfl) (fun b W h => by simp [execOp, go_sem, Act.eval, dk.sets_get, ws, List.lookup, r1, r4]), ?_⟩
    refine ⟨cpr.lastv (.int .i64 ((n - i : Nat) : Int)) (by rintro _ ⟨⟩; exact dk.sets_on _ (by simp) _ rfl) (fun W h => ?_), trivial⟩
    obtain rfl : W = W2.drew := h
    refine ⟨W3, ?_, rfl⟩
    simp [execOp, resolve, invoke, builtin, Act.eval, dk.sets_get, ws, List.lookup, hc2]
    rfl
  case fin =>
    intro L W hL hC
    obtain rfl : W = W3 := by
      have h8 := hL 8 (by decide)
      unfold dk.Cl at hC
      rw [h8] at hC
      exact hC
    simp only [dk.sets, ws]
    go_wp2
    go_ret
    exact ⟨_, _, rfl, HOWN.out, HB3.out⟩
set_option maxRecDepth 100000 in
set_option maxHeartbeats 4000000 in
theorem insert_end (l : List Rn) (g B : Nat) (xa : Option Addr) (xc : Nat) (xl : List flP.Pr) (ga : Nat) (w : World) (hl : l.length ≤ 1048576) (hB : B ≤ w.heap.size) (ho : w.ownsRow B 28 1 (.slice (some ⟨g, 0, none⟩) l.length l.length) l.length (l.flatMap cR)) (ha : w.heap[ga]? = some (.cells #[.slice xa xl.length xc] 28 (0, 0))) :
    Calls Tryz.prog 89 #[.slice (some ⟨g, 0, none⟩) l.length l.length, .int .i64 l.length, .slice (some ⟨ga, 0, none⟩) 1 1] w fun r w' => ∃ g2 c2, r = .returned (.slice (some ⟨g2, 0, none⟩) (l.length + 1) c2) ∧ w'.ownsRow B 28 1 (.slice (some ⟨g2, 0, none⟩) (l.length + 1) c2) (l.length + 1) ((l ++ [(⟨xa, xc, xl⟩ : Rn)]).flatMap cR) ∧ w.grownBy w' (some g) := by
  obtain ⟨i1, ki, kz0, kz1, kz2⟩ := infoX
  have hfl : (l ++ [(⟨xa, xc, xl⟩ : Rn)]).flatMap cR = l.flatMap cR ++ [Value.slice xa xl.length xc] := by rw [List.flatMap_append]; simp [cR]
  rw [hfl]
  have hnw : ∀ (j : Nat) (u : Value), [Value.slice xa xl.length xc][j]? = some u → w.cell? ((⟨ga, 0, none⟩ : Addr).add j) = some u := fun j u hu => by
    rw [add_at, Nat.zero_add]
    match j, hu with
    | 0, hu => cases hu; exact bcell ha rfl
    | j + 1, hu => simp at hu
  clear hfl ha
  go_enter Tryz.func89, Tryz.ntmps89
  go_wp2_with (at_builtin; refine wpList_append_own _ rfl _ _ 24 rfl B 28 i1 (.slice none 0 0) 1 24 Tryz.underlying24 ki kz0 kz1 kz2 rfl (by decide) _ _ _ rfl ho ⟨ga, 0, none⟩ 1 1 [Value.slice xa xl.length xc] rfl rfl hnw (by simp [Value.oneCell']) (by unfold maxLen; omega) (by omega) hB ?_)
  intro v' w' hown hgrow _
  obtain ⟨g2, c2, rfl⟩ := own_form hown
  have HO : Hid (w'.ownsRow B 28 1 (.slice (some ⟨g2, 0, none⟩) (l.length + 1) c2) (l.length + 1) (l.flatMap cR ++ [Value.slice xa xl.length xc])) := hown
  have HG : Hid (w.grownBy w' (some g)) := hgrow
  clear hown hgrow ho hnw
  go_wp2
  go_ret
  exact ⟨_, _, rfl, HO.out, HG.out⟩
/-- either way -/
theorem insert_run (l : List Rn) (g i B : Nat) (xa : Option Addr) (xc : Nat) (xl : List flP.Pr) (ga : Nat) (w : World) (hi : i ≤ l.length) (hl : l.length ≤ 1048576) (hB : B ≤ w.heap.size) (ho : w.ownsRow B 28 1 (.slice (some ⟨g, 0, none⟩) l.length l.length) l.length (l.flatMap cR)) (ha : w.heap[ga]? = some (.cells #[.slice xa xl.length xc] 28 (0, 0))) :
    Calls Tryz.prog 89 #[.slice (some ⟨g, 0, none⟩) l.length l.length, .int .i64 i, .slice (some ⟨ga, 0, none⟩) 1 1] w fun r w' => ∃ g2 c2, r = .returned (.slice (some ⟨g2, 0, none⟩) (l.length + 1) c2) ∧ w'.ownsRow B 28 1 (.slice (some ⟨g2, 0, none⟩) (l.length + 1) c2) (l.length + 1) ((l.take i ++ ⟨xa, xc, xl⟩ :: l.drop i).flatMap cR) ∧ w.grownBy w' (some g) := by
  by_cases h : i < l.length
  · exact (insert_mid l g i B xa xc xl ga w h hl hB ho ha).mono fun r w' ⟨g2, c2, h1, h2, h3⟩ => ⟨g2, c2, h1, h2, ⟨h3.os, h3.tape, h3.output, h3.size, fun k hk _ => h3.block k hk⟩⟩
  · obtain rfl : i = l.length := by omega
    rw [List.take_length, List.drop_length]
    exact insert_end l g B xa xc xl ga w hl hB ho ha
end Go.Proofs.YtoemkbooomgieaaGreatDoor.insr

/- The program's TableFlush. -/
namespace Go.Proofs.YtoemkbooomgieaaGreatDoor.fli
open Go.ChangeShapes Go.WideShapes Go.ChangeAt Go.RowKit Go.Proofs.YtoemkbooomgieaaGreatDoor.fl Go.Proofs.YtoemkbooomgieaaGreatDoor.fo Go.Proofs.YtoemkbooomgieaaGreatDoor.rn Go.Proofs.YtoemkbooomgieaaGreatDoor.tko Go.Proofs.YtoemkbooomgieaaGreatDoor.fls Go.Proofs.YtoemkbooomgieaaGreatDoor.tan
set_option linter.unusedVariables false

set_option maxRecDepth 100000 in
set_option maxHeartbeats 4000000 in
theorem impl_flush (ys : List flP.Pr) (rs : List Rn) (ya ra : Option Addr) (yc rc : Nat) (w : World) (F : tb.Fit ys rs) (hY : Row flP.c 3 w w.heap.size ya ys) (hR : VR w w.heap.size ra rs) :
    Calls Tryz.prog 62 #[.agg #[.slice ya ys.length yc, .slice ra rs.length rc]] w fun e w' => ∃ sa sc ta tc ks, e = .returned (.tuple #[.agg #[.slice sa (ansY ys (rs.map (·.l))).length sc, .slice ta (ansR ys (rs.map (·.l))).length tc], .bool (can ys (rs.map (·.l)))]) ∧ (((ansY ys (rs.map (·.l))).length ≤ sc ∧ ta.isSome = true ∧ ∀ r ∈ ks, r.l.length ≤ r.c) ∧ ks.map (·.l) = ansR ys (rs.map (·.l))) ∧ TA w' w.heap.size sa ta (ansY ys (rs.map (·.l))) ks ∧ Below w.heap.size w w' := by
  have hb : Below w.heap.size w ((w.alloc (.cells #[.slice ya ys.length yc, .slice ra rs.length rc] 30)).alloc (.cells #[.slice none 0 0, .slice none 0 0] 30)) := ((Below.refl _ _).alloc (Nat.le_refl _) _).alloc (by simp) _
  have hA := bold (bnew w #[.slice ya ys.length yc, .slice ra rs.length rc] 30) (.cells #[.slice none 0 0, .slice none 0 0] 30)
  have hRs := bnew (w.alloc (.cells #[.slice ya ys.length yc, .slice ra rs.length rc] 30)) #[.slice none 0 0, .slice none 0 0] 30
  rw [World.size_alloc] at hRs
  obtain ⟨W, hW⟩ : ∃ W, ((w.alloc (.cells #[.slice ya ys.length yc, .slice ra rs.length rc] 30)).alloc (.cells #[.slice none 0 0, .slice none 0 0] 30)) = W := ⟨_, rfl⟩
  rw [hW] at hb hA hRs
  have hcp := cpt.copy_table ys rs ya ra yc rc W F (hY.inn hb) (hR.inn hb)
  have HF : Hid (tb.Fit ys rs) := F
  have hrl := F.rl
  have HY : Hid (Row flP.c 3 w w.heap.size ya ys) := hY
  have HR : Hid (VR w w.heap.size ra rs) := hR
  have HA : Hid (W.heap[w.heap.size]? = some (.cells #[.slice ya ys.length yc, .slice ra rs.length rc] 30 (0, 0))) := hA
  have HRS : Hid (W.heap[w.heap.size + 1]? = some (.cells #[.slice none 0 0, .slice none 0 0] 30 (0, 0))) := hRs
  have hWs := (Array.getElem?_eq_some_iff.1 hRs).1
  have p0 : W.cell? ⟨w.heap.size, 0, none⟩ = some (.slice ya ys.length yc) := bcell hA rfl
  have p1 : W.cell? ⟨w.heap.size, 1, none⟩ = some (.slice ra rs.length rc) := bcell hA rfl
  clear hY hR hA hRs F
  go_enter Tryz.func62, Tryz.ntmps62
  go_wp2_with (go_at_call 39; fail)
  clear hW p0 p1
  refine hcp.mono ?_
  rintro e w2 ⟨g, h, ks, rfl, m2, hg2, hh2, ho2, hor2, hne2, hb2⟩
  have l2 : rs.length = ks.length := by have := congrArg List.length m2; simpa using this.symm
  have hal : Below w2.heap.size w2 (w2.alloc (.cells #[.slice (some ⟨g, 0, none⟩) ys.length ys.length, .slice (some ⟨h, 0, none⟩) rs.length rs.length] 30)) := (Below.refl _ _).alloc (Nat.le_refl _) _
  have hO := bnew w2 #[.slice (some ⟨g, 0, none⟩) ys.length ys.length, .slice (some ⟨h, 0, none⟩) rs.length rs.length] 30
  have of3 := ho2.below hal ho2.lt
  have or3 := hor2.on hal
  have hs2 := hb2.size
  have hgl := ho2.lt
  have hhl := hor2.lt
  obtain ⟨W3, hW3⟩ : ∃ W3, w2.alloc (.cells #[.slice (some ⟨g, 0, none⟩) ys.length ys.length, .slice (some ⟨h, 0, none⟩) rs.length rs.length] 30) = W3 := ⟨_, rfl⟩
  rw [hW3] at hal hO of3 or3
  have hB3 : Below W.heap.size W W3 := hb2.trans (hal.mono hs2)
  have hBw3 : Below w.heap.size w W3 := hb.trans (hB3.mono hb.size)
  have hok := impl_okb ys rs ya ra yc rc W3 HF.out (HY.out.inn hBw3) (HR.out.inn hBw3)
  have b3 := bstay HA.out hB3 (by omega)
  have c0 : W3.cell? ⟨w.heap.size, 0, none⟩ = some (.slice ya ys.length yc) := bcell b3 rfl
  have c1' : W3.cell? ⟨w.heap.size, 1, none⟩ = some (.slice ra rs.length rc) := bcell b3 rfl
  have HO : Hid (W3.heap[w2.heap.size]? = some (.cells #[.slice (some ⟨g, 0, none⟩) ys.length ys.length, .slice (some ⟨h, 0, none⟩) rs.length rs.length] 30 (0, 0))) := hO
  have HCK : Hid (∀ r ∈ ks, r.l.length ≤ r.c) := fun k hk => by obtain ⟨j, hj⟩ := List.getElem?_of_mem hk; obtain ⟨_, _, hc, _⟩ := or3.own j k hj; omega
  have HOF : Hid (Own flP.c 3 61 W3 g ys ys.length) := of3
  have HOR : Hid (OR W3 (W.heap.size + 2) h rs.length ks) := or3
  have HNE : Hid (∀ (i : Nat) (r : Rn), ks[i]? = some r → r.a ≠ some ⟨g, 0, none⟩) := hne2
  have HM : Hid (ks.map (·.l) = rs.map (·.l)) := m2
  have HL : Hid (rs.length = ks.length) := l2
  have hlt3 := (Array.getElem?_eq_some_iff.1 hO).1
  clear hcp ho2 hor2 hne2 hO of3 or3 m2 l2 hal b3
  go_wp2_with (go_at_call 26; fail)
  clear hW3
  refine hok.mono ?_
  rintro e w4 ⟨rfl, hb4⟩
  have b4 := bstay (bstay HA.out hB3 (by omega)) hb4 (by omega)
  have r4 := bstay (bstay HRS.out hB3 (by omega)) hb4 (by omega)
  have o4 := bstay HO.out hb4 hlt3
  have x0 : w4.cell? ⟨w.heap.size, 0, none⟩ = some (.slice ya ys.length yc) := bcell b4 rfl
  have x1 : w4.cell? ⟨w.heap.size, 1, none⟩ = some (.slice ra rs.length rc) := bcell b4 rfl
  have r0 : w4.cell? ⟨w.heap.size + 1, 0, none⟩ = some (.slice none 0 0) := bcell r4 rfl
  have r1 : w4.cell? ⟨w.heap.size + 1, 1, none⟩ = some (.slice none 0 0) := bcell r4 rfl
  have f0 := bfree r4 0
  have f1 := bfree r4 1
  have u0 : w4.cell? ⟨w2.heap.size, 0, none⟩ = some (.slice (some ⟨g, 0, none⟩) ys.length ys.length) := bcell o4 rfl
  have u1 : w4.cell? ⟨w2.heap.size, 1, none⟩ = some (.slice (some ⟨h, 0, none⟩) rs.length rs.length) := bcell o4 rfl
  have HOF4 : Hid (Own flP.c 3 61 w4 g ys ys.length) := HOF.out.below hb4 HOF.out.lt
  have HOR4 : Hid (OR w4 (W.heap.size + 2) h rs.length ks) := HOR.out.on hb4
  have hBw4 : Below w.heap.size w w4 := hBw3.trans (hb4.mono hBw3.size)
  have HR4 : Hid (w4.heap[w.heap.size + 1]? = some (.cells #[.slice none 0 0, .slice none 0 0] 30 (0, 0))) := r4
  obtain ⟨ob, hob⟩ : ∃ ob, okB ys (rs.map (·.l)) = ob := ⟨_, rfl⟩
  have HOB : Hid (okB ys (rs.map (·.l)) = ob) := hob
  rw [hob]
  have hWs4 : W.heap.size ≤ w4.heap.size := Nat.le_trans hB3.size hb4.size
  have hs34 : w2.heap.size < w4.heap.size := Nat.lt_of_lt_of_le hlt3 hb4.size
  clear hok c0 c1' b4 r4 o4 hob HOF HOR HO HA HRS hb4
  by_cases hc : ob = true ∧ ys.length ≠ 0 ∧ rs.length < 8
  · obtain ⟨rfl, hy0, hr8⟩ := hc
    have HC : Hid (can ys (rs.map (·.l)) = true) := can_true HOB.out hy0 (by simpa using hr8)
    have hy1 : ¬ (ys.length : Int) = 0 := by omega
    have hy2 : ((ys.length : Int) == 0) = false := by simp; exact (fun e => hy0 (by rw [e]; rfl))
    have hr9 : ((rs.length : Int) == 8) = false := by simp; omega
    have HOX : Hid (OR (w4.alloc (.cells #[.slice (some ⟨g, 0, none⟩) ys.length ys.length] 28)) (W.heap.size + 2) h rs.length ks) := HOR4.out.on ((Below.refl _ _).alloc (Nat.le_refl _) _)
    have hins := insr.insert_run ks h 0 (W.heap.size + 2) (some ⟨g, 0, none⟩) ys.length ys w4.heap.size (w4.alloc (.cells #[.slice (some ⟨g, 0, none⟩) ys.length ys.length] 28)) (Nat.zero_le _) (by rw [← HL.out]; omega) (by simp; omega) (or_owns (by rw [← HL.out]; exact HOX.out) hh2 (by rw [← HL.out]; unfold maxLen; omega)) (bnew w4 _ _)
    rw [← HL.out] at hins
    have u1' : (w4.alloc (.cells #[.slice (some ⟨g, 0, none⟩) ys.length ys.length] 28)).cell? ⟨w2.heap.size, 1, none⟩ = some (.slice (some ⟨h, 0, none⟩) rs.length rs.length) := by
      rw [World.cell?_of_block (a := ⟨w2.heap.size, 1, none⟩) (Below.heap_alloc w4 _ w2.heap.size (by omega))]
      exact u1
    go_wp2_with (go_at_call 89; fail)
    clear u0 u1 u1' x0 x1 r0 r1 f0 f1
    refine hins.mono ?_
    rintro e w5 ⟨g5, c5, rfl, hown5, hgr5⟩
    have hs5 : w4.heap.size + 1 ≤ w5.heap.size := by have := hgr5.size; simpa using this
    have hk5 : ∀ k, k < w4.heap.size → k ≠ h → w5.heap[k]? = w4.heap[k]? := fun k hk hkh => (hgr5.block k (by simp; omega) (fun e => hkh (Option.some.inj e))).trans (Below.heap_alloc w4 _ k hk)
    have r5 : w5.heap[w.heap.size + 1]? = some (.cells #[.slice none 0 0, .slice none 0 0] 30 (0, 0)) := (hk5 _ (by omega) (by omega)).trans HR4.out
    have q0 : w5.cell? ⟨w.heap.size + 1, 0, none⟩ = some (.slice none 0 0) := bcell r5 rfl
    have q1 : w5.cell? ⟨w.heap.size + 1, 1, none⟩ = some (.slice none 0 0) := bcell r5 rfl
    have e0 := bfree r5 0
    have e1 := bfree r5 1
    have HOWN : Hid (w5.ownsRow (W.heap.size + 2) 28 1 (.slice (some ⟨g5, 0, none⟩) (rs.length + 1) c5) (rs.length + 1) ((ks.take 0 ++ ⟨some ⟨g, 0, none⟩, ys.length, ys⟩ :: ks.drop 0).flatMap cR)) := hown5
    have HK5 : Hid (∀ k, k < w4.heap.size → k ≠ h → w5.heap[k]? = w4.heap[k]?) := hk5
    have HG5 : Hid ((w4.alloc (.cells #[.slice (some ⟨g, 0, none⟩) ys.length ys.length] 28)).grownBy w5 (some h)) := hgr5
    clear hins hown5 hgr5 hk5 r5
    go_wp2
    have hgk : ∀ (k : Nat), w5.heap[k]? = w4.heap[k]? → k ≠ w.heap.size + 1 → ((w5.setCell ⟨w.heap.size + 1, 0, none⟩ (.slice none 0 0)).setCell ⟨w.heap.size + 1, 1, none⟩ (.slice (some ⟨g5, 0, none⟩) (rs.length + 1) c5)).heap[k]? = w4.heap[k]? := fun k h1 h2 => ((Below.heap_setCell _ _ _ _ h2).trans (Below.heap_setCell _ _ _ _ h2)).trans h1
    have hk : w5.ownsRow (W.heap.size + 2) 28 1 (.slice (some ⟨g5, 0, none⟩) (rs.length + 1) c5) (rs.length + 1) ((⟨some ⟨g, 0, none⟩, ys.length, ys⟩ :: ks).flatMap cR) := HOWN.out
    have hk2 := sct.own_set (j := 1) (u := .slice (some ⟨g5, 0, none⟩) (rs.length + 1) c5) (sct.own_set (j := 0) (u := .slice none 0 0) hk (show w.heap.size + 1 < W.heap.size + 2 by omega)) (show w.heap.size + 1 < W.heap.size + 2 by omega)
    obtain ⟨cur5, hc5⟩ := sct.typed hk2 rfl
    have hg5l := (hk.lt g5 rfl).1
    have hrw := row_of cR_len (by simp [HL.out]) hk2
    have hgh : g ≠ h := by
      obtain ⟨cu, hcu, _⟩ := HOR4.out.blk
      exact own_ne (by decide) HOF4.out hcu
    refine bodyPost_ret (v := .tuple #[.agg #[.slice none 0 0, .slice (some ⟨g5, 0, none⟩) (rs.length + 1) c5], .bool true]) (by simp [results, Tryz.results62, go_sem, q0, q1]) rfl ⟨none, 0, some ⟨g5, 0, none⟩, c5, ⟨some ⟨g, 0, none⟩, ys.length, ys⟩ :: ks, ?_, ?_, ?_, ?_⟩
    · rw [(ans_yes HC.out).1, (ans_yes HC.out).2, HC.out]
      simp
    · refine ⟨⟨by rw [(ans_yes HC.out).1]; exact Nat.le_refl _, rfl, fun r hr => ?_⟩, ?_⟩
      · rcases List.mem_cons.1 hr with rfl | hr
        · exact Nat.le_refl _
        · exact HCK.out r hr
      · rw [(ans_yes HC.out).2, ← HM.out]
        rfl
    · rw [(ans_yes HC.out).1]
      refine of_runs (.inl rfl) (by omega) hc5 hrw (fun i r hr => ?_) (fun i j r s hij hr hs => ?_) (fun i r hr k hk => absurd rfl hk.1)
      · cases i with
        | zero =>
          cases hr
          exact ⟨g, rfl, by omega, (of_own HOF4.out).kept (hgk g (HK5.out g (by omega) hgh) (by omega))⟩
        | succ i =>
          obtain ⟨h', e, _, hB', ho'⟩ := HOR4.out.own i r hr
          have hne : h' ≠ h := by
            obtain ⟨cu, hcu, _⟩ := HOR4.out.blk
            exact own_ne (by decide) ho' hcu
          exact ⟨h', e, by omega, (of_own ho').kept (hgk h' (HK5.out h' ho'.lt hne) (by omega))⟩
      · cases j with
        | zero => omega
        | succ j =>
          cases i with
          | zero =>
            cases hr
            exact (HNE.out j s hs).symm
          | succ i => exact HOR4.out.nd i j r s (by omega) hr hs
    · have hb5 : Below w.heap.size w w5 := ⟨HG5.out.os.trans hBw4.os, HG5.out.tape.trans hBw4.tape, HG5.out.output.trans hBw4.output, by have := hBw4.size; omega, fun k hk => (HK5.out k (by omega) (by omega)).trans (hBw4.block k hk)⟩
      exact (hb5.setCell (Nat.le_succ _) _).setCell (Nat.le_succ _) _
  · have HC : Hid (can ys (rs.map (·.l)) = false) := can_false HOB.out (by simpa using hc)
    have fin : ∀ w', w' = (w4.setCell ⟨w.heap.size + 1, 0, none⟩ (.slice (some ⟨g, 0, none⟩) ys.length ys.length)).setCell ⟨w.heap.size + 1, 1, none⟩ (.slice (some ⟨h, 0, none⟩) rs.length rs.length) → (((ansY ys (rs.map (·.l))).length ≤ ys.length ∧ (some (⟨h, 0, none⟩ : Addr)).isSome = true ∧ ∀ r ∈ ks, r.l.length ≤ r.c) ∧ ks.map (·.l) = ansR ys (rs.map (·.l))) ∧ TA w' w.heap.size (some ⟨g, 0, none⟩) (some ⟨h, 0, none⟩) (ansY ys (rs.map (·.l))) ks ∧ Below w.heap.size w w' := fun w' hw' => by
      subst hw'
      refine ⟨⟨⟨by rw [(ans_no HC.out).1]; exact Nat.le_refl _, rfl, HCK.out⟩, by rw [HM.out, (ans_no HC.out).2]⟩, ?_, (hBw4.setCell (Nat.le_succ _) _).setCell (Nat.le_succ _) _⟩
      rw [(ans_no HC.out).1]
      refine of_own_runs (B' := W.heap.size + 2) ((HOF4.out.kept (Below.heap_setCell _ _ _ _ (show g ≠ w.heap.size + 1 by omega))).kept (Below.heap_setCell _ _ _ _ (show g ≠ w.heap.size + 1 by omega))) ?_ (by omega) (by omega) (by omega) HNE.out
      rw [← HL.out]
      exact (HOR4.out.set (by omega) (by omega) _ _).set (by omega) (by omega) _ _
    have HFN : Hid (∀ w', w' = (w4.setCell ⟨w.heap.size + 1, 0, none⟩ (.slice (some ⟨g, 0, none⟩) ys.length ys.length)).setCell ⟨w.heap.size + 1, 1, none⟩ (.slice (some ⟨h, 0, none⟩) rs.length rs.length) → (((ansY ys (rs.map (·.l))).length ≤ ys.length ∧ (some (⟨h, 0, none⟩ : Addr)).isSome = true ∧ ∀ r ∈ ks, r.l.length ≤ r.c) ∧ ks.map (·.l) = ansR ys (rs.map (·.l))) ∧ TA w' w.heap.size (some ⟨g, 0, none⟩) (some ⟨h, 0, none⟩) (ansY ys (rs.map (·.l))) ks ∧ Below w.heap.size w w') := fin
    have HQ : Hid ((ansY ys (rs.map (·.l))).length = ys.length ∧ (ansR ys (rs.map (·.l))).length = rs.length) := by
      rw [(ans_no HC.out).1, (ans_no HC.out).2]
      exact ⟨rfl, by simp⟩
    clear fin
    cases ob
    · clear hc
      go_wp2
      refine bodyPost_ret (v := .tuple #[.agg #[.slice (some ⟨g, 0, none⟩) ys.length ys.length, .slice (some ⟨h, 0, none⟩) rs.length rs.length], .bool false]) (by simp [results, Tryz.results62, go_sem, r0, r1]) rfl ⟨some ⟨g, 0, none⟩, ys.length, some ⟨h, 0, none⟩, rs.length, ks, ?_, HFN.out _ rfl⟩
      rw [HQ.out.1, HQ.out.2, HC.out]
    · by_cases hy0 : ys.length = 0
      · obtain rfl : ys = [] := List.eq_nil_of_length_eq_zero hy0
        clear hy0 hc
        go_wp2
        refine bodyPost_ret (v := .tuple #[.agg #[.slice (some ⟨g, 0, none⟩) 0 0, .slice (some ⟨h, 0, none⟩) rs.length rs.length], .bool false]) (by simp [results, Tryz.results62, go_sem, r0, r1]) rfl ⟨some ⟨g, 0, none⟩, 0, some ⟨h, 0, none⟩, rs.length, ks, ?_, HFN.out _ rfl⟩
        rw [HQ.out.1, HQ.out.2, HC.out]
        rfl
      · have hy1 : ¬ (ys.length : Int) = 0 := by omega
        have hr8 : rs.length = 8 := by
          have h8 := (okB_true.1 HOB.out).rl
          simp at h8
          by_cases h : rs.length < 8
          · exact absurd ⟨rfl, hy0, h⟩ hc
          · omega
        have hr9 : ((rs.length : Int) == 8) = true := by simp; omega
        have hr10 : decide ((rs.length : Int) = 8) = true := by simp; omega
        clear hc hr8
        go_wp2
        refine bodyPost_ret (v := .tuple #[.agg #[.slice (some ⟨g, 0, none⟩) ys.length ys.length, .slice (some ⟨h, 0, none⟩) rs.length rs.length], .bool false]) (by simp [results, Tryz.results62, go_sem, r0, r1]) rfl ⟨some ⟨g, 0, none⟩, ys.length, some ⟨h, 0, none⟩, rs.length, ks, ?_, HFN.out _ rfl⟩
        rw [HQ.out.1, HQ.out.2, HC.out]
end Go.Proofs.YtoemkbooomgieaaGreatDoor.fli

/- slices.Replace of two neighbours by one run, in a row of runs that has no spare room. -/
namespace Go.Proofs.YtoemkbooomgieaaGreatDoor.rpl
open Go.ChangeShapes Go.WideShapes Go.ChangeAt Go.RowKit Go.Proofs.YtoemkbooomgieaaGreatDoor.rn Go.Proofs.YtoemkbooomgieaaGreatDoor.fl Go.Proofs.YtoemkbooomgieaaGreatDoor.insr
set_option linter.unusedVariables false

/-- clear of one run's place -/
theorem run_clear (W : World) (g c o : Nat) (cur : Array Value) (ty : TypeId) (hg : W.heap[g]? = some (.cells cur 28 (0, 0))) (ho : o < cur.size) :
    (Builtin.clear_ #[24] ty #[.slice (some ⟨g, o, none⟩) 1 c]).run Tryz.prog W = .ok (.tuple #[]) (W.setRow g (cur.toList.take o ++ [Value.slice none 0 0] ++ cur.toList.drop (o + 1)).toArray) := by
  have hst := run_storeCells_at Tryz.prog g o 28 [Value.slice none 0 0] 0 cur W hg (by simp; omega) (by simp [Value.oneCell'])
  simp only [Nat.add_zero] at hst
  have hz := Tryz.zeroValue28
  simp only [Builtin.clear_]
  simp [run_underlying Tryz.underlying24, hz]
  rw [show (Builtin.zeroCells (Value.slice none 0 0).cells 1).toList = [Value.slice none 0 0] from by simp [Builtin.zeroCells, Value.cells], hst]
  simp
/-- what an owned row with no spare room is -/
theorem whole {w : World} {B n g : Nat} {U : TypeId} {xs : List Value} (h : w.ownsRow B U 1 (.slice (some ⟨g, 0, none⟩) n n) n xs) : B ≤ g ∧ n ≤ maxLen ∧ xs.length = n ∧ w.heap[g]? = some (.cells xs.toArray U (0, 0)) := by
  obtain ⟨h0, ⟨h1, _⟩ | ⟨g', cap', cur, h1, h2, h3, h4, h5, h6, h7⟩⟩ := h
  · cases h1
  cases h1
  have e : cur.toList = xs := by rw [← h7, List.take_of_length_le (by simp [h6])]
  refine ⟨h2, h5, by omega, ?_⟩
  rw [h3, ← e]
theorem gb_row {w w1 : World} {g : Nat} (h : w.grownBy w1 (some g)) (cs : Array Value) : w.grownBy (w1.setRow g cs) (some g) := h.trans ⟨rfl, rfl, rfl, by simp, fun k _ hk => setRow_other w1 g k _ (fun e => hk (by rw [e]))⟩

set_option maxRecDepth 100000 in
set_option maxHeartbeats 4000000 in
theorem replace_end (l : List Rn) (g i B : Nat) (xa : Option Addr) (xc : Nat) (xl : List flP.Pr) (ga : Nat) (w : World) (hi : i + 2 = l.length) (hl : l.length ≤ 1048576) (ho : w.ownsRow B 28 1 (.slice (some ⟨g, 0, none⟩) l.length l.length) l.length (l.flatMap cR)) (ha : w.heap[ga]? = some (.cells #[.slice xa xl.length xc] 28 (0, 0))) :
    Calls Tryz.prog 65 #[.slice (some ⟨g, 0, none⟩) l.length l.length, .int .i64 i, .int .i64 (i + 2 : Nat), .slice (some ⟨ga, 0, none⟩) 1 1] w fun r w' => r = .returned (.slice (some ⟨g, 0, none⟩) (i + 1) l.length) ∧ w'.ownsRow B 28 1 (.slice (some ⟨g, 0, none⟩) (i + 1) l.length) (i + 1) ((l.take i ++ [(⟨xa, xc, xl⟩ : Rn)]).flatMap cR) ∧ w.grownBy w' (some g) := by
  obtain ⟨i1, ki, kz0, kz1, kz2⟩ := infoX
  obtain ⟨hBg, hmx, hxl, hcur⟩ := whole ho
  have hnw : ∀ (j : Nat) (u : Value), [Value.slice xa xl.length xc][j]? = some u → w.cell? ((⟨ga, 0, none⟩ : Addr).add j) = some u := fun j u hu => by
    rw [add_at, Nat.zero_add]
    match j, hu with
    | 0, hu => cases hu; exact bcell ha rfl
    | j + 1, hu => simp at hu
  have hap := fun ty => run_append_room (P := Tryz.prog) w 24 ty 28 i1 Tryz.underlying24 ki g i l.length _ hcur ⟨ga, 0, none⟩ 1 1 [Value.slice xa xl.length xc] (by rw [kz1]; rfl) hnw (by simp [Value.oneCell']) (by omega) (by rw [kz1]; show i * 1 + 1 ≤ (l.flatMap cR).toArray.size; rw [List.size_toArray, hxl]; omega)
  rw [kz1] at hap
  simp only [Nat.mul_one, List.length_singleton] at hap
  obtain ⟨xs, hxs⟩ : ∃ xs, l.flatMap cR = xs := ⟨_, rfl⟩
  have htk : (l.take i).flatMap cR = xs.take i := by
    rw [← hxs, ← flat_take l i]
    have : ((l.take i).flatMap cR).length = i := by rw [flat_len cR_len, List.length_take]; omega
    rw [List.take_append_of_le_length (Nat.le_of_eq this.symm), List.take_of_length_le (Nat.le_of_eq this)]
  rw [hxs] at hap hxl hcur
  obtain ⟨n, hn⟩ : ∃ n, l.length = n := ⟨_, rfl⟩
  rw [hn] at hap hxl hi hl hmx
  simp only [hn]
  have hg1 := setRow_heap w g _ (xs.take i ++ [Value.slice xa xl.length xc] ++ xs.drop (i + 1)).toArray 28 _ hcur
  obtain ⟨W1, hW1⟩ : ∃ W1, w.setRow g (xs.take i ++ [Value.slice xa xl.length xc] ++ xs.drop (i + 1)).toArray = W1 := ⟨_, rfl⟩
  have hgr1 : w.grownBy W1 (some g) := by rw [← hW1]; exact gb_row (World.grownBy.refl _ _) _
  rw [hW1] at hap hg1
  have hcl := fun ty => run_clear W1 g 1 (i + 1) _ ty hg1 (by simp; omega)
  have hg2 := setRow_heap W1 g _ ((xs.take i ++ [Value.slice xa xl.length xc] ++ xs.drop (i + 1)).toArray.toList.take (i + 1) ++ [Value.slice none 0 0] ++ (xs.take i ++ [Value.slice xa xl.length xc] ++ xs.drop (i + 1)).toArray.toList.drop (i + 1 + 1)).toArray 28 _ hg1
  have hown : (W1.setRow g ((xs.take i ++ [Value.slice xa xl.length xc] ++ xs.drop (i + 1)).toArray.toList.take (i + 1) ++ [Value.slice none 0 0] ++ (xs.take i ++ [Value.slice xa xl.length xc] ++ xs.drop (i + 1)).toArray.toList.drop (i + 1 + 1)).toArray).ownsRow B 28 1 (.slice (some ⟨g, 0, none⟩) (i + 1) n) (i + 1) (xs.take i ++ [Value.slice xa xl.length xc]) := by
    refine owns_new (tl := [.slice none 0 0]) hg2 hBg ?_ (by simp; omega) (by omega) hmx (by simp; omega)
    have h1 : (xs.take i ++ [Value.slice xa xl.length xc]).length = i + 1 := by simp; omega
    show ((xs.take i ++ [Value.slice xa xl.length xc] ++ xs.drop (i + 1)).take (i + 1) ++ [Value.slice none 0 0] ++ (xs.take i ++ [Value.slice xa xl.length xc] ++ xs.drop (i + 1)).drop (i + 1 + 1)) = _
    rw [← h1, List.take_left, List.drop_eq_nil_of_le (by simp; omega), List.append_nil]
  have hgr2 := gb_row hgr1 ((xs.take i ++ [Value.slice xa xl.length xc] ++ xs.drop (i + 1)).toArray.toList.take (i + 1) ++ [Value.slice none 0 0] ++ (xs.take i ++ [Value.slice xa xl.length xc] ++ xs.drop (i + 1)).toArray.toList.drop (i + 1 + 1)).toArray
  obtain ⟨W2, hW2⟩ : ∃ W2, W1.setRow g ((xs.take i ++ [Value.slice xa xl.length xc] ++ xs.drop (i + 1)).toArray.toList.take (i + 1) ++ [Value.slice none 0 0] ++ (xs.take i ++ [Value.slice xa xl.length xc] ++ xs.drop (i + 1)).toArray.toList.drop (i + 1 + 1)).toArray = W2 := ⟨_, rfl⟩
  rw [hW2] at hcl hown hgr2
  have HFN : Hid (W2.ownsRow B 28 1 (.slice (some ⟨g, 0, none⟩) (i + 1) n) (i + 1) ((l.take i ++ [(⟨xa, xc, xl⟩ : Rn)]).flatMap cR) ∧ w.grownBy W2 (some g)) := by
    unfold Hid
    rw [List.flatMap_append, htk]
    exact ⟨by simpa [cR] using hown, hgr2⟩
  subst hi
  have hcl0 := hcl 0
  clear hown hgr2 hgr1 hg1 hg2 hW1 hW2 hcl htk hnw ho ha hcur
  go_enter Tryz.func65, Tryz.ntmps65
  go_wp2_with (at_builtin; refine cpr.wpList_append_run rfl _ _ 24 24 rfl _ _ _ rfl rfl (hap _) ?_)
  go_ret
  exact ⟨rfl, HFN.out⟩
end Go.Proofs.YtoemkbooomgieaaGreatDoor.rpl

/- slices.Replace of two neighbours by one run that are not the last ones, in a row of runs that has no spare room. -/
namespace Go.Proofs.YtoemkbooomgieaaGreatDoor.rpl
open Go.ChangeShapes Go.WideShapes Go.ChangeAt Go.RowKit Go.Proofs.YtoemkbooomgieaaGreatDoor.rn Go.Proofs.YtoemkbooomgieaaGreatDoor.fl Go.Proofs.YtoemkbooomgieaaGreatDoor.insr
set_option linter.unusedVariables false

theorem gb_drew {w w1 : World} {g : Nat} (h : w.grownBy w1 (some g)) : w.grownBy w1.drew (some g) := by
  have hb : Below w1.heap.size w1 w1.drew := (Below.refl _ _).drew
  exact h.trans ⟨hb.os, hb.tape, hb.output, hb.size, fun k hk _ => hb.block k hk⟩
theorem gb_drewN {w : World} (g n : Nat) : w.grownBy (w.drewN n) (some g) := ⟨rfl, rfl, rfl, Nat.le_refl _, fun _ _ _ => rfl⟩
/-- the two copies and the clear, one behind the other -/
structure Mid (n i g ga : Nat) (xa : Option Addr) (xm xc B : Nat) (v : List Value) (w W0 W1 W2 W3 : World) : Prop where
  c1 : ∀ ty, (Builtin.copy_ #[24, 24] ty #[.slice (some ⟨g, i, none⟩) (n - 1 - i) (n - i), .slice (some ⟨ga, 0, none⟩) 1 1]).run Tryz.prog W0 = .ok (goInt 1) W1
  c2 : ∀ ty, (Builtin.copy_ #[24, 24] ty #[.slice (some ⟨g, i + 1, none⟩) (n - 1 - (i + 1)) (n - (i + 1)), .slice (some ⟨g, i + 2, none⟩) (n - (i + 2)) (n - (i + 2))]).run Tryz.prog W1.drew = .ok (goInt ((n - i - 2 : Nat) : Int)) W2
  c3 : ∀ ty, (Builtin.clear_ #[24] ty #[.slice (some ⟨g, n - 1, none⟩) 1 1]).run Tryz.prog W2 = .ok (.tuple #[]) W3
  own : W3.ownsRow B 28 1 (.slice (some ⟨g, 0, none⟩) (n - 1) n) (n - 1) v
  gr : w.grownBy W3 (some g)
set_option maxRecDepth 100000 in
set_option maxHeartbeats 4000000 in
theorem mid_way (l : List Rn) (g i B : Nat) (xa : Option Addr) (xc : Nat) (xl : List flP.Pr) (ga : Nat) (w W0 : World) (h0 : W0.heap = w.heap) (hgr0 : w.grownBy W0 (some g)) (hi : i + 2 < l.length) (hl : l.length ≤ 1048576) (hga : ga ≠ g) (ho : w.ownsRow B 28 1 (.slice (some ⟨g, 0, none⟩) l.length l.length) l.length (l.flatMap cR)) (ha : w.heap[ga]? = some (.cells #[.slice xa xl.length xc] 28 (0, 0))) :
    ∃ W1 W2 W3, Mid l.length i g ga xa xl.length xc B ((l.take i ++ (⟨xa, xc, xl⟩ : Rn) :: l.drop (i + 2)).flatMap cR) w W0 W1 W2 W3 := by
  obtain ⟨i1, ki, kz0, kz1, kz2⟩ := infoX
  obtain ⟨hBg, hmx, hxl, hcur⟩ := whole ho
  have hnw : ∀ (j : Nat) (u : Value), [Value.slice xa xl.length xc][j]? = some u → W0.cell? ((⟨ga, 0, none⟩ : Addr).add j) = some u := fun j u hu => by
    rw [add_at, Nat.zero_add]
    match j, hu with
    | 0, hu => cases hu; exact bcell (by rw [h0]; exact ha) rfl
    | j + 1, hu => simp at hu
  obtain ⟨n, hn⟩ : ∃ n, l.length = n := ⟨_, rfl⟩
  have hx1l : ((l.take i).flatMap cR).length = i := by rw [flat_len cR_len, List.length_take]; omega
  have hrl : ((l.drop i).flatMap cR).length = n - i := by rw [flat_len cR_len, List.length_drop]; omega
  have hcl : ((l.drop (i + 2)).flatMap cR).length = n - i - 2 := by rw [flat_len cR_len, List.length_drop]; omega
  have hrd : ((l.drop i).flatMap cR).drop 2 = (l.drop (i + 2)).flatMap cR := by
    have h1 : l.drop i = l[i]'(by omega) :: l[i + 1]'(by omega) :: l.drop (i + 2) := by
      rw [List.drop_eq_getElem_cons (show i < l.length by omega), List.drop_eq_getElem_cons (show i + 1 < l.length by omega)]
    have h2 : (l.drop i).flatMap cR = (l[i]'(by omega) :: l[i + 1]'(by omega) :: l.drop (i + 2)).flatMap cR := congrArg (List.flatMap cR) h1
    rw [h2, List.flatMap_cons, List.flatMap_cons]
    rfl
  have hone : ∀ u ∈ (l.drop (i + 2)).flatMap cR, u.oneCell' = true := oneX _
  rw [← flat_take l i] at hcur
  have hfl : (l.take i ++ (⟨xa, xc, xl⟩ : Rn) :: l.drop (i + 2)).flatMap cR = (l.take i).flatMap cR ++ [Value.slice xa xl.length xc] ++ (l.drop (i + 2)).flatMap cR := by simp [cR]
  rw [hfl]
  obtain ⟨xs, hxs⟩ : ∃ xs, (l.take i).flatMap cR = xs := ⟨_, rfl⟩
  obtain ⟨rest, hrest⟩ : ∃ rest, (l.drop i).flatMap cR = rest := ⟨_, rfl⟩
  obtain ⟨cs, hcs⟩ : ∃ cs, (l.drop (i + 2)).flatMap cR = cs := ⟨_, rfl⟩
  rw [hxs] at hx1l hcur ⊢
  rw [hrest] at hrl hcur hrd
  rw [hcs] at hcl hrd hone ⊢
  rw [hn] at hi hl hmx
  simp only [hn]
  have hmin1 : Nat.min 1 (n - 1 - i) = 1 := Nat.min_eq_left (by omega)
  have hmin2 : Nat.min (n - (i + 2)) (n - 1 - (i + 1)) = n - i - 2 := by rw [show n - 1 - (i + 1) = n - (i + 2) by omega]; exact (Nat.min_self _).trans (by omega)
  have hcurd : W0.heap[g]? = some (.cells (xs ++ rest).toArray 28 (0, 0)) := by rw [h0]; exact hcur
  have hc1 := fun ty => cpr.run_copy_rows (P := Tryz.prog) W0 24 24 ty 28 i1 g i (n - 1 - i) (n - i) ⟨ga, 0, none⟩ 1 1 (xs ++ rest).toArray 28 [Value.slice xa xl.length xc] Tryz.underlying24 ki hcurd (by rw [kz1, hmin1]; rfl) hnw (by simp; omega) (by simp [Value.oneCell'])
  rw [hmin1] at hc1
  simp only [show ([Value.slice xa xl.length xc] : List Value).length = 1 from rfl] at hc1
  obtain ⟨A1, hA1⟩ : ∃ A1 : List Value, (xs ++ rest).take i ++ [Value.slice xa xl.length xc] ++ (xs ++ rest).drop (i + 1) = A1 := ⟨_, rfl⟩
  have hc1 : ∀ ty, (Builtin.copy_ #[24, 24] ty #[.slice (some ⟨g, i, none⟩) (n - 1 - i) (n - i), .slice (some ⟨ga, 0, none⟩) 1 1]).run Tryz.prog W0 = .ok (goInt 1) (W0.setRow g A1.toArray) := fun ty => by rw [← hA1]; exact hc1 ty
  have hA1l : A1.length = n := by rw [← hA1]; simp; omega
  have hg1 := setRow_heap W0 g _ A1.toArray 28 _ hcurd
  have hgr1 : w.grownBy (W0.setRow g A1.toArray) (some g) := gb_row hgr0 _
  obtain ⟨W1, hW1⟩ : ∃ W1, W0.setRow g A1.toArray = W1 := ⟨_, rfl⟩
  rw [hW1] at hc1 hg1 hgr1
  have hA1d : A1.drop (i + 2) = cs := by
    rw [← hA1, ← hrd]
    have h1 : (xs ++ rest).take i = xs := by rw [← hx1l, List.take_left]
    have h2 : (xs ++ rest).drop (i + 1) = rest.drop 1 := by rw [← hx1l, List.drop_append, List.drop_eq_nil_of_le (by omega), List.nil_append]; congr 1; omega
    rw [h1, h2, List.drop_append, List.drop_eq_nil_of_le (by simp; omega), List.nil_append, List.drop_drop]
    congr 1
    simp
    omega
  have hc2 := fun ty => cpr.run_copy_rows (P := Tryz.prog) W1.drew 24 24 ty 28 i1 g (i + 1) (n - 1 - (i + 1)) (n - (i + 1)) ⟨g, i + 2, none⟩ (n - (i + 2)) (n - (i + 2)) A1.toArray 28 cs Tryz.underlying24 ki hg1 (by rw [kz1, hmin2, hcl]; omega) (fun j u hu => by
    rw [add_at]
    have hg1' : W1.drew.heap[g]? = some (.cells A1.toArray 28 (0, 0)) := hg1
    refine bcell hg1' ?_
    rw [← hA1d, List.getElem?_drop] at hu
    simpa using hu) (by simp; omega) hone
  rw [hmin2] at hc2
  have htwo : A1.take (i + 1) ++ cs ++ A1.drop (i + 1 + cs.length) = xs ++ [Value.slice xa xl.length xc] ++ cs ++ rest.drop (1 + cs.length) := by
    rw [← hA1]
    exact two_copies (v := [Value.slice xa xl.length xc]) hx1l rfl (by show 1 + cs.length ≤ rest.length; omega)
  obtain ⟨A2, hA2⟩ : ∃ A2 : List Value, xs ++ [Value.slice xa xl.length xc] ++ cs ++ rest.drop (1 + cs.length) = A2 := ⟨_, rfl⟩
  have hc2 : ∀ ty, (Builtin.copy_ #[24, 24] ty #[.slice (some ⟨g, i + 1, none⟩) (n - 1 - (i + 1)) (n - (i + 1)), .slice (some ⟨g, i + 2, none⟩) (n - (i + 2)) (n - (i + 2))]).run Tryz.prog W1.drew = .ok (goInt ((n - i - 2 : Nat) : Int)) (W1.drew.setRow g A2.toArray) := fun ty => by rw [← hA2, ← htwo]; exact hc2 ty
  have hA2l : A2.length = n := by rw [← hA2]; simp; omega
  have hg2 := setRow_heap W1.drew g _ A2.toArray 28 _ hg1
  have hgr2 : w.grownBy (W1.drew.setRow g A2.toArray) (some g) := gb_row (gb_drew hgr1) _
  obtain ⟨W2, hW2⟩ : ∃ W2, W1.drew.setRow g A2.toArray = W2 := ⟨_, rfl⟩
  rw [hW2] at hc2 hg2 hgr2
  have hcr := fun ty => run_clear W2 g 1 (n - 1) _ ty hg2 (by simp; omega)
  have hg3 := setRow_heap W2 g _ (A2.take (n - 1) ++ [Value.slice none 0 0] ++ A2.drop (n - 1 + 1)).toArray 28 _ hg2
  have hgr3 := gb_row hgr2 (A2.take (n - 1) ++ [Value.slice none 0 0] ++ A2.drop (n - 1 + 1)).toArray
  refine ⟨W1, W2, _, hc1, hc2, hcr, ?_, hgr3⟩
  refine owns_new (tl := [Value.slice none 0 0]) hg3 hBg ?_ (by simp; omega) (by omega) hmx (by simp; omega)
  have h1 : (xs ++ [Value.slice xa xl.length xc] ++ cs).length = n - 1 := by simp; omega
  have h2 : A2.take (n - 1) = xs ++ [Value.slice xa xl.length xc] ++ cs := by rw [← hA2, ← h1, List.take_left]
  rw [h2, List.drop_eq_nil_of_le (by omega), List.append_nil]
def wsM (g ga i n : Nat) : List (Nat × Value) := [(98, .slice (some ⟨g, 0, none⟩) (n - 1) n), (99, .int .i64 i), (100, .slice (some ⟨ga, 0, none⟩) 1 1), (101, .int .i64 1), (102, .int .i64 ((i : Int) + 1)), (103, .slice (some ⟨g, i + 1, none⟩) (n - 1 - (i + 1)) (n - (i + 1))), (104, .slice (some ⟨g, 0, none⟩) n n), (105, .int .i64 ((i : Int) + 2)), (106, .slice (some ⟨g, i + 2, none⟩) (n - (i + 2)) (n - (i + 2))), (107, .int .i64 ((n - i - 2 : Nat) : Int))]
set_option maxRecDepth 100000 in
set_option maxHeartbeats 4000000 in
theorem replace_mid (l : List Rn) (g i B : Nat) (xa : Option Addr) (xc : Nat) (xl : List flP.Pr) (ga : Nat) (w : World) (hi : i + 2 < l.length) (hl : l.length ≤ 1048576) (hga : ga ≠ g) (ho : w.ownsRow B 28 1 (.slice (some ⟨g, 0, none⟩) l.length l.length) l.length (l.flatMap cR)) (ha : w.heap[ga]? = some (.cells #[.slice xa xl.length xc] 28 (0, 0))) :
    Calls Tryz.prog 65 #[.slice (some ⟨g, 0, none⟩) l.length l.length, .int .i64 i, .int .i64 (i + 2 : Nat), .slice (some ⟨ga, 0, none⟩) 1 1] w fun r w' => r = .returned (.slice (some ⟨g, 0, none⟩) (l.length - 1) l.length) ∧ w'.ownsRow B 28 1 (.slice (some ⟨g, 0, none⟩) (l.length - 1) l.length) (l.length - 1) ((l.take i ++ (⟨xa, xc, xl⟩ : Rn) :: l.drop (i + 2)).flatMap cR) ∧ w.grownBy w' (some g) := by
  have hmid := fun nq => mid_way l g i B xa xc xl ga w (w.drewN nq) rfl (gb_drewN g nq) hi hl hga ho ha
  have HM : Hid (∀ nq, ∃ W1 W2 W3, Mid l.length i g ga xa xl.length xc B ((l.take i ++ (⟨xa, xc, xl⟩ : Rn) :: l.drop (i + 2)).flatMap cR) w (w.drewN nq) W1 W2 W3) := hmid
  obtain ⟨n, hn⟩ : ∃ n, l.length = n := ⟨_, rfl⟩
  rw [hn] at HM hi hl
  simp only [hn]
  clear hmid ho ha hn hga
  go_enter Tryz.func65, Tryz.ntmps65
  go_wp2
  go_quiet (fail)
  obtain ⟨W1, W2, W3, hm⟩ := HM.out nq
  have etot : (i : Int) + 1 + ((n - (i + 2) : Nat) : Int) = ((n - 1 : Nat) : Int) := by omega
  rw [etot]
  obtain ⟨W0, hW0⟩ : ∃ W0, w.drewN nq = W0 := ⟨_, rfl⟩
  rw [hW0] at hm ⊢
  have hc1 := hm.c1
  have hc3 : (Builtin.clear_ #[24] 0 #[.slice (some ⟨g, n - 1, none⟩) (n - (n - 1)) (n - (n - 1))]).run Tryz.prog W2 = .ok (.tuple #[]) W3 := by rw [show n - (n - 1) = 1 by omega]; exact hm.c3 0
  have r6 : ¬ n = n - 1 := by omega
  have HMM : Hid (Mid n i g ga xa xl.length xc B (List.flatMap cR (List.take i l ++ { a := xa, c := xc, l := xl } :: List.drop (i + 2) l)) w W0 W1 W2 W3) := hm
  have r1 : n - 1 ≤ n := by omega
  have r2 : i ≤ n - 1 := by omega
  have r3 : ¬ n = i := by omega
  have r4 : ¬ ((n : Int) < ((n - 1 : Nat) : Int)) := by omega
  have r5 : (i : Int) + 1 ≤ (i : Int) + 2 := by omega
  clear hW0 HM hm etot
  go_wp2_with (at_builtin; refine cpr.wpList_copy_run rfl _ _ 24 24 rfl _ _ _ rfl rfl (hc1 _) ?_)
  have i9 : IntKind.i64.wrap ((i : Int) + 1) = (i : Int) + 1 := by rw [IntKind.wrap_i64]; omega
  have s1 : (0 : Int) ≤ (i : Int) + 1 := by omega
  have s2 : i + 1 ≤ n - 1 := by omega
  have s3 : ¬ n = i + 1 := by omega
  have s4 : (0 : Int) ≤ (i : Int) + 2 := by omega
  have s9 : (i : Int) + 2 ≤ (n : Int) := by omega
  have s5 : i + 2 ≤ n := by omega
  have s6 : ¬ n = i + 2 := by omega
  have s7 : ((i : Int) + 1).toNat = i + 1 := by omega
  have s8 : ((i : Int) + 2).toNat = i + 2 := by omega
  have hc2 := HMM.out.c2
  refine dk.region_sets (wsM g ga i n) [98, 99, 100, 101, 102, 103, 104, 105, 106, 107] (dk.Cl (fun b W => W = if b then W2 else W1.drew) 9) (by kernel_rfl) (by kernel_rfl) rfl (by kernel_rfl) rfl ?each ?fin
  case each =>
    refine ⟨dk.q (by decide) (.slice (some ⟨g, 0, none⟩) (n - 1) n) (by rintro _ ⟨⟩; exact dk.sets_on _ (by simp) _ rfl) (fun b W h => by simp [execOp, go_sem, Act.eval, dk.sets_get, wsM, List.lookup]), ?_⟩
    refine ⟨dk.q (by decide) (.int .i64 i) (by rintro _ ⟨⟩; exact dk.sets_on _ (by simp) _ rfl) (fun b W h => by simp [execOp, go_sem, Act.eval, dk.sets_get, wsM, List.lookup]), ?_⟩
    refine ⟨dk.q (by decide) (.slice (some ⟨ga, 0, none⟩) 1 1) (by rintro _ ⟨⟩; exact dk.sets_on _ (by simp) _ rfl) (fun b W h => by simp [execOp, go_sem, Act.eval, dk.sets_get, wsM, List.lookup]), ?_⟩
    refine ⟨dk.q (by decide) (.int .i64 1) (by rintro _ ⟨⟩; exact dk.sets_on _ (by simp) _ rfl) (fun b W h => by simp [go_sem, Act.eval, dk.sets_get, wsM, List.lookup]), ?_⟩
    refine ⟨dk.q (by decide) (.int .i64 ((i : Int) + 1)) (by rintro _ ⟨⟩; exact dk.sets_on _ (by simp) _ rfl) (fun b W h => by simp [execOp, go_sem, Act.eval, dk.sets_get, wsM, List.lookup, i9]), ?_⟩
    refine ⟨dk.q (by decide) (.slice (some ⟨g, i + 1, none⟩) (n - 1 - (i + 1)) (n - (i + 1))) (by rintro _ ⟨⟩; exact dk.sets_on _ (by simp) _ rfl) (fun b W h => by simp [execOp, go_sem, Act.eval, dk.sets_get, wsM, List.lookup, s1, s3]; intro h'; omega), ?_⟩
    refine ⟨dk.q (by decide) (.slice (some ⟨g, 0, none⟩) n n) (by rintro _ ⟨⟩; exact dk.sets_on _ (by simp) _ rfl) (fun b W h => by simp [execOp, go_sem, Act.eval, dk.sets_get, wsM, List.lookup]), ?_⟩
    refine ⟨dk.q (by decide) (.int .i64 ((i : Int) + 2)) (by rintro _ ⟨⟩; exact dk.sets_on _ (by simp) _ rfl) (fun b W h => by simp [execOp, go_sem, Act.eval, dk.sets_get, wsM, List.lookup]), ?_⟩
    refine ⟨dk.q (by decide) (.slice (some ⟨g, i + 2, none⟩) (n - (i + 2)) (n - (i + 2))) (by rintro _ ⟨⟩; exact dk.sets_on _ (by simp) _ rfl) (fun b W h => by simp [execOp, go_sem, Act.eval, dk.sets_get, wsM, List.lookup, s9, s4, s8, s6]), ?_⟩
    refine ⟨cpr.lastv (.int .i64 ((n - i - 2 : Nat) : Int)) (by rintro _ ⟨⟩; exact dk.sets_on _ (by simp) _ rfl) (fun W h => ?_), trivial⟩
    obtain rfl : W = W1.drew := h
    refine ⟨W2, ?_, rfl⟩
    simp [execOp, resolve, invoke, builtin, Act.eval, dk.sets_get, wsM, List.lookup, hc2]
    rfl
  case fin =>
    intro L W hL hC
    obtain rfl : W = W2 := by
      have h9 := hL 9 (by decide)
      unfold dk.Cl at hC
      rw [h9] at hC
      exact hC
    simp only [dk.sets, wsM]
    clear hc2 hC hL i9 s1 s2 s3 s4 s9 s5 s6 s7 s8
    go_wp2
    go_ret
    exact ⟨rfl, HMM.out.own, HMM.out.gr⟩
/-- either way -/
theorem replace_run (l : List Rn) (g i B : Nat) (xa : Option Addr) (xc : Nat) (xl : List flP.Pr) (ga : Nat) (w : World) (hi : i + 2 ≤ l.length) (hl : l.length ≤ 1048576) (hga : ga ≠ g) (ho : w.ownsRow B 28 1 (.slice (some ⟨g, 0, none⟩) l.length l.length) l.length (l.flatMap cR)) (ha : w.heap[ga]? = some (.cells #[.slice xa xl.length xc] 28 (0, 0))) :
    Calls Tryz.prog 65 #[.slice (some ⟨g, 0, none⟩) l.length l.length, .int .i64 i, .int .i64 (i + 2 : Nat), .slice (some ⟨ga, 0, none⟩) 1 1] w fun r w' => r = .returned (.slice (some ⟨g, 0, none⟩) (l.length - 1) l.length) ∧ w'.ownsRow B 28 1 (.slice (some ⟨g, 0, none⟩) (l.length - 1) l.length) (l.length - 1) ((l.take i ++ (⟨xa, xc, xl⟩ : Rn) :: l.drop (i + 2)).flatMap cR) ∧ w.grownBy w' (some g) := by
  by_cases h : i + 2 < l.length
  · exact replace_mid l g i B xa xc xl ga w h hl hga ho ha
  · have h2 : i + 2 = l.length := by omega
    rw [List.drop_eq_nil_of_le (by omega), show l.length - 1 = i + 1 by omega]
    exact replace_end l g i B xa xc xl ga w h2 hl ho ha
end Go.Proofs.YtoemkbooomgieaaGreatDoor.rpl

/- slices.DeleteFunc and slices.IndexFunc at a row of pairs, asked by isGone: the pairs that are Gone are struck. -/
namespace Go.Proofs.YtoemkbooomgieaaGreatDoor.dg
open Go.ChangeShapes Go.WideShapes Go.ChangeAt Go.RowKit Go.Proofs.YtoemkbooomgieaaGreatDoor.fl Go.Proofs.YtoemkbooomgieaaGreatDoor.fo
set_option linter.unusedVariables false

theorem closure (b : flP.Pr) (w : World) : Calls Tryz.prog 64 #[.agg #[.string b.k, .string b.v, .bool b.g]] w fun e w' => e = .returned (.bool b.g) ∧ Below w.heap.size w w' := by
  obtain ⟨k, v, gn⟩ := b
  have hb := (Below.refl w.heap.size w).alloc (Nat.le_refl _) (.cells #[.string k, .string v, .bool gn] 61)
  go_enter Tryz.func64, Tryz.ntmps64
  go_wp2
  go_ret
  exact ⟨rfl, hb⟩

/-- a row of pairs on the way: kept is what is left of the first j, the others still lie where they lay -/
def DR (W : World) (g : Nat) (bs kept : List flP.Pr) (j : Nat) : Prop := ∃ cur, W.heap[g]? = some (.cells cur 61 (0, 0)) ∧ bs.length * 3 ≤ cur.size ∧
  (∀ (i : Nat) (e : flP.Pr), kept[i]? = some e → cur[i * 3]? = some (.string e.k) ∧ cur[i * 3 + 1]? = some (.string e.v) ∧ cur[i * 3 + 2]? = some (.bool e.g)) ∧
  (∀ (i : Nat) (e : flP.Pr), j ≤ i → bs[i]? = some e → cur[i * 3]? = some (.string e.k) ∧ cur[i * 3 + 1]? = some (.string e.v) ∧ cur[i * 3 + 2]? = some (.bool e.g))
section
variable {W W' : World} {g B : Nat} {bs kept : List flP.Pr} {j : Nat}
theorem DR.lt (h : DR W g bs kept j) : g < W.heap.size := by
  obtain ⟨cur, h1, _⟩ := h
  exact (Array.getElem?_eq_some_iff.1 h1).1
theorem DR.below (h : DR W g bs kept j) (hb : Below B W W') (hg : g < B) : DR W' g bs kept j := by
  obtain ⟨cur, h1, h2⟩ := h
  exact ⟨cur, by rw [hb.block g hg]; exact h1, h2⟩
theorem DR.at (h : DR W g bs kept j) (o : Nat) (ho : o < bs.length * 3) : ∃ v, W.cell? ⟨g, o, none⟩ = some v := by
  obtain ⟨cur, hg, hs, _⟩ := h
  exact ⟨cur[o]'(by omega), by simp [World.cell?, hg, Array.getElem?_eq_getElem (show o < cur.size by omega)]⟩
theorem DR.free (h : DR W g bs kept j) (o : Nat) : W.frozen? ⟨g, o, none⟩ = false := by
  obtain ⟨cur, hg, _⟩ := h
  simp [World.frozen?, hg]
theorem DR.old (h : DR W g bs kept j) {i : Nat} {e : flP.Pr} (hi : j ≤ i) (he : bs[i]? = some e) : W.cell? ⟨g, i * 3, none⟩ = some (.string e.k) ∧ W.cell? ⟨g, i * 3 + 1, none⟩ = some (.string e.v) ∧ W.cell? ⟨g, i * 3 + 2, none⟩ = some (.bool e.g) := by
  obtain ⟨cur, hg, _, _, hc⟩ := h
  obtain ⟨h1, h2, h3⟩ := hc i e hi he
  exact ⟨bcell hg h1, bcell hg h2, bcell hg h3⟩
theorem DR.skip (h : DR W g bs kept j) : DR W g bs kept (j + 1) := by
  obtain ⟨cur, h1, h2, h3, h4⟩ := h
  exact ⟨cur, h1, h2, h3, fun i e hi => h4 i e (by omega)⟩
theorem DR.keep (h : DR W g bs kept j) (hk : kept.length ≤ j) (hj : j < bs.length) (x k : ByteArray) (q : Bool) : DR (((W.setCell ⟨g, kept.length * 3, none⟩ (.string x)).setCell ⟨g, kept.length * 3 + 1, none⟩ (.string k)).setCell ⟨g, kept.length * 3 + 2, none⟩ (.bool q)) g bs (kept ++ [⟨x, k, q⟩]) (j + 1) := by
  obtain ⟨cur, h1, h2, h3, h4⟩ := h
  refine ⟨_, bset (bset (bset h1 _ _) _ _) _ _, by simpa using h2, fun i e he => ?_, fun i e hi he => ?_⟩
  · rcases Nat.lt_trichotomy i kept.length with hi | rfl | hi
    · rw [List.getElem?_append_left hi] at he
      have hold := h3 i e he
      simp only [Array.getElem?_setIfInBounds]
      repeat rw [if_neg (by omega)]
      exact hold
    · rw [List.getElem?_append_right (Nat.le_refl _)] at he
      simp at he
      subst he
      simp [Array.getElem?_setIfInBounds]
      omega
    · rw [List.getElem?_append_right (by omega)] at he
      have := (List.getElem?_eq_some_iff.1 he).1
      simp at this
      omega
  · have hold := h4 i e (by omega) he
    simp only [Array.getElem?_setIfInBounds]
    repeat rw [if_neg (by omega)]
    exact hold
theorem three {cur : Array Value} {i : Nat} {e : flP.Pr} (h : ∀ (j : Nat) (v : Value), (flP.c e)[j]? = some v → cur[0 + i * 3 + j]? = some v) : cur[i * 3]? = some (.string e.k) ∧ cur[i * 3 + 1]? = some (.string e.v) ∧ cur[i * 3 + 2]? = some (.bool e.g) := by
  have h0 := h 0 _ rfl
  have h1 := h 1 _ rfl
  have h2 := h 2 _ rfl
  rw [Nat.zero_add] at h0 h1 h2
  exact ⟨h0, h1, h2⟩
theorem DR.of (h : OwnO flP.c 3 61 W g 0 bs bs.length) : DR W g bs (bs.take j) j := by
  obtain ⟨cur, h1, h2, h3⟩ := h
  refine ⟨cur, h1, by omega, fun i e he => ?_, fun i e hi he => three (h3 i e (List.getElem?_eq_some_iff.1 he).1 he)⟩
  have hi := (List.getElem?_eq_some_iff.1 he).1
  rw [List.length_take] at hi
  rw [List.getElem?_take_of_lt (by omega)] at he
  exact three (h3 i e (by omega) he)
/-- what is left when the rest of the row has been cleared -/
theorem DR.cleared (h : DR W g bs kept j) (hk : kept.length ≤ bs.length) (vs : List Value) : OwnO flP.c 3 61 (W.setCells g (kept.length * 3) vs) g 0 kept kept.length := by
  obtain ⟨cur, h1, h2, h3, _⟩ := h
  have e : ∀ (vs : List Value) (W : World) (o : Nat), W.setCells g o vs = fl.setRow W g o vs := by
    intro vs
    induction vs with
    | nil => intros; rfl
    | cons v r ih => intro W o; simp only [World.setCells, fl.setRow]; exact ih _ _
  rw [e]
  refine ⟨_, fl.setRow_heap vs W _ cur h1, by rw [fl.setArr_size]; omega, fun i f hi hf j v hv => ?_⟩
  obtain ⟨a, b, c⟩ := h3 i f hf
  match j, hv with
  | 0, hv => cases hv; rw [fl.setArr_off _ _ _ _ (.inl (by omega)), Nat.zero_add]; exact a
  | 1, hv => cases hv; rw [fl.setArr_off _ _ _ _ (.inl (by omega)), Nat.zero_add]; exact b
  | 2, hv => cases hv; rw [fl.setArr_off _ _ _ _ (.inl (by omega)), Nat.zero_add]; exact c
end

section
variable {w w1 w2 : World} {r : Option Nat} {g : Nat}
theorem gb_refl (w : World) (r : Option Nat) : w.grownBy w r := ⟨rfl, rfl, rfl, Nat.le_refl _, fun _ _ _ => rfl⟩
theorem gb_below (h : w.grownBy w1 r) (hb : Below w1.heap.size w1 w2) : w.grownBy w2 r := h.trans ⟨hb.os, hb.tape, hb.output, hb.size, fun k hk _ => hb.block k hk⟩
theorem gb_set (h : w.grownBy w1 (some g)) (o : Nat) (v : Value) : w.grownBy (w1.setCell ⟨g, o, none⟩ v) (some g) := by
  have hb : Below 0 w1 (w1.setCell ⟨g, o, none⟩ v) := (Below.refl 0 w1).setCell (Nat.zero_le _) v
  exact h.trans ⟨hb.os, hb.tape, hb.output, hb.size, fun k hk hne => RowKit.Below.heap_setCell _ _ _ _ (by intro e; exact hne (by rw [e]))⟩
theorem gb_sets : ∀ (vs : List Value) (w1 : World) (o : Nat), w.grownBy w1 (some g) → w.grownBy (w1.setCells g o vs) (some g)
  | [], w1, o, h => h
  | v :: r, w1, o, h => gb_sets r _ _ (gb_set h o v)
end
/-- what is left of the first j -/
def K (bs : List flP.Pr) (j : Nat) : List flP.Pr := (bs.take j).filter fun b => !b.g
theorem K_len (bs : List flP.Pr) (j : Nat) : (K bs j).length ≤ j := Nat.le_trans (List.length_filter_le _ _) (by rw [List.length_take]; omega)
theorem K_next {bs : List flP.Pr} {j : Nat} {b : flP.Pr} (h : bs[j]? = some b) : K bs (j + 1) = if b.g then K bs j else K bs j ++ [b] := by
  unfold K
  obtain ⟨hj, he⟩ := List.getElem?_eq_some_iff.1 h
  rw [List.take_succ_eq_append_getElem hj, List.filter_append, he]
  cases hm : b.g <;> simp [hm]
theorem K_first {bs : List flP.Pr} {k : Nat} (h : ∀ i b, i < k → bs[i]? = some b → b.g = false) : K bs k = bs.take k := by
  unfold K
  rw [List.filter_eq_self]
  intro b hb
  obtain ⟨i, hi⟩ := List.getElem?_of_mem hb
  have hl := (List.getElem?_eq_some_iff.1 hi).1
  rw [List.length_take] at hl
  rw [List.getElem?_take_of_lt (by omega)] at hi
  simp [h i b (by omega) hi]
theorem K_all (bs : List flP.Pr) : K bs bs.length = bs.filter fun b => !b.g := by
  unfold K
  rw [List.take_length]
theorem K_lt {bs : List flP.Pr} {k : Nat} {b : flP.Pr} (h : bs[k]? = some b) (hm : b.g = true) : ∀ m, (K bs (k + 1 + m)).length ≤ k + m
  | 0 => by
    rw [Nat.add_zero, K_next h, hm, if_pos rfl]
    have := K_len bs k
    omega
  | m + 1 => by
    have ih := K_lt h hm m
    rw [show k + 1 + (m + 1) = k + 1 + m + 1 by omega]
    cases hx : bs[k + 1 + m]? with
    | none =>
      have hle : bs.length ≤ k + 1 + m := by simpa using hx
      have : K bs (k + 1 + m + 1) = K bs (k + 1 + m) := by
        unfold K
        rw [List.take_of_length_le (by omega), List.take_of_length_le hle]
      rw [this]
      omega
    | some c =>
      rw [K_next hx]
      split
      · omega
      · simp; omega

/-- clear: the rest of the row -/
theorem run_clear (W : World) (g n c o : Nat) (ty : TypeId) (hn : 0 < n) (hc : ∀ j, j < n * 3 → (W.cell? ⟨g, o + j, none⟩).isSome = true) (hf : ∀ j, W.frozen? ⟨g, j, none⟩ = false) :
    ∃ vs, (Builtin.clear_ #[28] ty #[.slice (some ⟨g, o, none⟩) n c]).run Tryz.prog W = .ok (.tuple #[]) (W.setCells g o vs) := by
  have hzl : (Builtin.zeroCells #[.string ByteArray.empty, .string ByteArray.empty, .bool false] n).toList.length = n * 3 := by simp [Builtin.zeroCells]
  have hz1 : ∀ v ∈ (Builtin.zeroCells #[.string ByteArray.empty, .string ByteArray.empty, .bool false] n).toList, v.oneCell' = true := by
    intro v hv
    simp [Builtin.zeroCells] at hv
    obtain ⟨a, _, rfl⟩ := hv
    have : a % 3 < 3 := Nat.mod_lt _ (by omega)
    generalize a % 3 = r at this ⊢
    match r, this with
    | 0, _ => rfl
    | 1, _ => rfl
    | 2, _ => rfl
  have hst := run_storeCells_cells (P := Tryz.prog) g o (Builtin.zeroCells #[.string ByteArray.empty, .string ByteArray.empty, .bool false] n).toList 0 W (by rw [hzl]; simpa using hc) (by rw [hzl]; intro j _; exact hf _) hz1
  simp only [Nat.add_zero] at hst
  refine ⟨(Builtin.zeroCells #[.string ByteArray.empty, .string ByteArray.empty, .bool false] n).toList, ?_⟩
  obtain ⟨m, rfl⟩ : ∃ m, n = m + 1 := ⟨n - 1, by omega⟩
  have hz := Tryz.zeroValue61
  simp only [Builtin.clear_]
  simp [run_underlying Tryz.underlying28, hz]
  rw [show (Value.agg #[.string ⟨#[]⟩, .string ⟨#[]⟩, .bool false]).cells = #[.string ByteArray.empty, .string ByteArray.empty, .bool false] from rfl, hst]
  rfl

set_option maxRecDepth 100000 in
set_option maxHeartbeats 1000000 in
theorem index_func (bs : List flP.Pr) (g cap : Nat) (w : World) (hl : bs.length ≤ 1048576) (hR : Row flP.c 3 w w.heap.size (some ⟨g, 0, none⟩) bs) :
    Calls Tryz.prog 90 #[.slice (some ⟨g, 0, none⟩) bs.length cap, .func (.func 64) #[] #[]] w fun e w' => ∃ k : Nat, ((k = bs.length ∧ e = .returned (.int .i64 (-1))) ∨ (k < bs.length ∧ e = .returned (.int .i64 k) ∧ ∃ b, bs[k]? = some b ∧ b.g = true)) ∧ (∀ i b, i < k → bs[i]? = some b → b.g = false) ∧ Below w.heap.size w w' := by
  have HR : Hid (Row flP.c 3 w w.heap.size (some ⟨g, 0, none⟩) bs) := hR
  clear hR
  go_enter Tryz.func90, Tryz.ntmps90
  go_wp2
  go_loopw [8] (fun x wr => ∃ k : Nat, k ≤ bs.length ∧ x = .int .i64 k ∧ Hid (∀ i b, i < k → bs[i]? = some b → b.g = false) ∧ Below w.heap.size w wr) (fun x _ => bs.length - (intOf x).toNat)
  case atStart => exact ⟨0, Nat.zero_le _, rfl, fun i b hi => by omega, Below.refl _ _⟩
  case round =>
    obtain ⟨k, hk, rfl, hno, hbel⟩ := hrel
    by_cases hkl : k < bs.length
    · have HG : Hid (bs[k]? = some bs[k]) := List.getElem?_eq_getElem hkl
      obtain ⟨b', off', hbo, hglt, hcc⟩ := HR.out.resolve_left (by rintro rfl; simp at hkl)
      cases hbo
      have cc : ∀ (j : Nat) (v : Value), (flP.c bs[k])[j]? = some v → wr.cell? ⟨g, k * 3 + j, none⟩ = some v := fun j v hv => by have h1 := hcc k _ HG.out j v hv; rw [Nat.zero_add] at h1; exact (hbel.cell (p := ⟨g, k * 3 + j, none⟩) hglt).trans h1
      have c0 := cc 0 _ rfl
      have c1 := cc 1 _ rfl
      have c2 := cc 2 _ rfl
      clear cc hcc
      have hcl := closure bs[k] wr
      obtain ⟨⟨x, y, z⟩, he⟩ : ∃ e, bs[k] = e := ⟨_, rfl⟩
      rw [he] at c0 c1 c2 HG hcl
      have c0 : wr.cell? ⟨g, k * 3, none⟩ = some (.string x) := c0
      have c1 : wr.cell? ⟨g, k * 3 + 1, none⟩ = some (.string y) := c1
      have c2 : wr.cell? ⟨g, k * 3 + 2, none⟩ = some (.bool z) := c2
      have hbs := hbel.size
      clear he
      cases z with
      | true =>
        go_wp2_with (go_at_call 64; refine hcl.mono ?_; rintro e w1 ⟨rfl, hb1⟩)
        go_ret
        exact ⟨k, .inr ⟨hkl, rfl, _, HG.out, rfl⟩, hno.out, hbel.trans (hb1.mono hbs)⟩
      | false =>
        go_wp2_with (go_at_call 64; refine hcl.mono ?_; rintro e w1 ⟨rfl, hb1⟩)
        go_roundw
        case rel =>
          refine ⟨k + 1, by omega, by go_num, fun i b hi hb => ?_, hbel.trans (hb1.mono hbs)⟩
          by_cases e : i = k
          · subst e
            rw [HG.out] at hb
            cases hb
            exact rfl
          · exact hno.out i b (by omega) hb
        case measure => simp [intOf]; omega
    · obtain rfl : k = bs.length := by omega
      go_wp2
      go_ret
      exact ⟨bs.length, .inl ⟨rfl, rfl⟩, hno.out, hbel⟩

set_option maxRecDepth 100000 in
set_option maxHeartbeats 2000000 in
theorem delete_func (bs : List flP.Pr) (g cap : Nat) (w : World) (hl : bs.length ≤ 1048576) (hcap : bs.length ≤ cap) (hR : OwnO flP.c 3 61 w g 0 bs bs.length) :
    Calls Tryz.prog 63 #[.slice (some ⟨g, 0, none⟩) bs.length cap, .func (.func 64) #[] #[]] w fun e w' => e = .returned (.slice (some ⟨g, 0, none⟩) (bs.filter fun b => !b.g).length cap) ∧ OwnO flP.c 3 61 w' g 0 (bs.filter fun b => !b.g) (bs.filter fun b => !b.g).length ∧ w.grownBy w' (some g) := by
  have hix := index_func bs g cap w hl hR.row
  have HR : Hid (OwnO flP.c 3 61 w g 0 bs bs.length) := hR
  have hglt := hR.lt
  clear hR
  go_enter Tryz.func63, Tryz.ntmps63
  go_wp2_with (go_at_call 90; fail)
  refine hix.mono ?_
  rintro e w1 ⟨k0, hcase, hno, hb1⟩
  clear hix
  rcases hcase with ⟨rfl, rfl⟩ | ⟨hk0, rfl, hit⟩
  · have hf : (bs.filter fun b => !b.g) = bs := by
      rw [List.filter_eq_self]
      intro b hb
      obtain ⟨i, hi⟩ := List.getElem?_of_mem hb
      simp [hno i b (List.getElem?_eq_some_iff.1 hi).1 hi]
    have HF : Hid ((bs.filter fun b => !b.g) = bs) := hf
    clear hf hno
    go_wp2
    go_ret
    rw [HF.out]
    exact ⟨rfl, HR.out.below hb1 hglt, gb_below (gb_refl _ _) hb1⟩
  · have HNO : Hid (∀ i b, i < k0 → bs[i]? = some b → b.g = false) := hno
    obtain ⟨b0, hit0, hit1⟩ := hit
    have HIT : Hid (bs[k0]? = some b0 ∧ b0.g = true) := ⟨hit0, hit1⟩
    have HD0 : Hid (DR w1 g bs (K bs (k0 + 1)) (k0 + 1)) := by
      have h1 := (DR.of (j := k0) (HR.out.below hb1 hglt)).skip
      rw [← K_first hno] at h1
      have h2 := K_next hit0
      rw [hit1, if_pos rfl] at h2
      unfold Hid
      rw [h2]
      exact h1
    have HL0 : Hid ((K bs (k0 + 1)).length = k0) := by
      have h2 := K_next hit0
      rw [hit1, if_pos rfl] at h2
      unfold Hid
      rw [h2, K_first hno, List.length_take]
      omega
    have hg1 : w.grownBy w1 (some g) := gb_below (gb_refl _ _) hb1
    have HLT : Hid (∀ j, k0 + 1 ≤ j → (K bs j).length ≤ j - 1) := fun j hj => by
      have := K_lt hit0 hit1 (j - (k0 + 1))
      rw [show k0 + 1 + (j - (k0 + 1)) = j by omega] at this
      omega
    have hk1 : ((k0 : Int) == -1) = false := by simp
    clear hno hit0 hit1
    go_wp2
    clear hk1
    go_loopw [5, 6] (fun y x wr => ∃ j : Nat, k0 + 1 ≤ j ∧ j ≤ bs.length ∧ x = .int .i64 j ∧ y = .int .i64 ((K bs j).length : Nat) ∧ Hid (DR wr g bs (K bs j) j) ∧ w.grownBy wr (some g)) (fun _ x _ => bs.length - (intOf x).toNat)
    case atStart => exact ⟨k0 + 1, by omega, by omega, by go_num, by rw [HL0.out], HD0, hg1⟩
    case round =>
      obtain ⟨j, hj0, hj, rfl, rfl, hdr, hgr⟩ := hrel
      have hkl := HLT.out j hj0
      by_cases hjl : j < bs.length
      · have HG : Hid (bs[j]? = some bs[j]) := List.getElem?_eq_getElem hjl
        obtain ⟨c0, c1, c2⟩ := hdr.out.old (Nat.le_refl _) HG.out
        have HK := fun b h => K_next (bs := bs) (j := j) (b := b) h
        obtain ⟨⟨x, y, z⟩, he⟩ : ∃ e, bs[j] = e := ⟨_, rfl⟩
        rw [he] at c0 c1 c2 HG
        have HKN : Hid (K bs (j + 1) = if z then K bs j else K bs j ++ [⟨x, y, z⟩]) := HK _ HG.out
        have c0 : wr.cell? ⟨g, j * 3, none⟩ = some (.string x) := c0
        have c1 : wr.cell? ⟨g, j * 3 + 1, none⟩ = some (.string y) := c1
        have c2 : wr.cell? ⟨g, j * 3 + 2, none⟩ = some (.bool z) := c2
        have hba : Below wr.heap.size wr (wr.alloc (.cells #[.string x, .string y, .bool z] 61)) := (Below.refl _ _).alloc (Nat.le_refl _) _
        have hcl := closure ⟨x, y, z⟩ (wr.alloc (.cells #[.string x, .string y, .bool z] 61))
        have hgl := hdr.out.lt
        have HV := bnew wr #[.string x, .string y, .bool z] 61
        obtain ⟨i, hi⟩ : ∃ i, (K bs j).length = i := ⟨_, rfl⟩
        have HI : Hid ((K bs j).length = i) := hi
        rw [hi] at hkl ⊢
        have hin : (i : Int) < (bs.length : Int) := by omega
        have HVH : Hid ((wr.alloc (.cells #[.string x, .string y, .bool z] 61)).heap[wr.heap.size]? = some (.cells #[.string x, .string y, .bool z] 61 (0, 0))) := HV
        clear he hi HK HV
        cases z with
        | true =>
          go_wp2_with (go_at_call 64; refine hcl.mono ?_; rintro e w2 ⟨rfl, hb2⟩)
          go_roundw
          case rel =>
            have hx : K bs (j + 1) = K bs j := by simpa using HKN.out
            refine ⟨j + 1, by omega, by omega, by go_num, by rw [hx, HI.out], ?_, gb_below (gb_below hgr hba) hb2⟩
            unfold Hid
            rw [hx]
            exact (DR.below (DR.below hdr.out hba hgl) hb2 (by simp; omega)).skip
          case measure => simp [intOf]; omega
        | false =>
          go_wp2_with (go_at_call 64; refine hcl.mono ?_; rintro e w2 ⟨rfl, hb2⟩; have hv2 := bstay HVH.out hb2 (by simp); have d0 : w2.cell? ⟨wr.heap.size, 0, none⟩ = some (.string x) := bcell hv2 rfl; have d1 : w2.cell? ⟨wr.heap.size, 1, none⟩ = some (.string y) := bcell hv2 rfl; have d2 : w2.cell? ⟨wr.heap.size, 2, none⟩ = some (.bool false) := bcell hv2 rfl; have hd2 := DR.below (DR.below hdr.out hba hgl) hb2 (by simp; omega); obtain ⟨o0, p0⟩ := hd2.at (i * 3) (by omega); obtain ⟨o1, p1⟩ := hd2.at (i * 3 + 1) (by omega); obtain ⟨o2, p2⟩ := hd2.at (i * 3 + 2) (by omega); have z0 := hd2.free (i * 3); have z1 := hd2.free (i * 3 + 1); have z2 := hd2.free (i * 3 + 2); have HD2 : Hid (DR w2 g bs (K bs j) j) := hd2; clear hd2 hv2)
          go_roundw
          case rel =>
            have hx : K bs (j + 1) = K bs j ++ [⟨x, y, false⟩] := by simpa using HKN.out
            have hkk := HI.out
            refine ⟨j + 1, by omega, by omega, by go_num, by rw [hx]; simp [hkk], ?_, gb_set (gb_set (gb_set (gb_below (gb_below hgr hba) hb2) _ _) _ _) _ _⟩
            unfold Hid
            rw [hx]
            have := DR.keep HD2.out (by omega) hjl x y false
            rw [hkk] at this
            exact this
          case measure => simp [intOf]; omega
      · obtain rfl : j = bs.length := by omega
        obtain ⟨i, hi⟩ : ∃ i, (K bs bs.length).length = i := ⟨_, rfl⟩
        rw [hi] at hkl ⊢
        have hcd := run_clear wr g (bs.length - i) (cap - i) (i * 3)
        have HI : Hid ((K bs bs.length).length = i) := hi
        have HCL : Hid (∀ ty, ∃ vs, (Builtin.clear_ #[28] ty #[.slice (some ⟨g, i * 3, none⟩) (bs.length - i) (cap - i)]).run Tryz.prog wr = .ok (.tuple #[]) (wr.setCells g (i * 3) vs)) := fun ty => hcd ty (by omega) (fun t ht => by obtain ⟨v, hv⟩ := hdr.out.at (i * 3 + t) (by omega); rw [hv]; rfl) (fun t => hdr.out.free t)
        have hin : i ≤ bs.length := by omega
        obtain ⟨vs, hvs⟩ := HCL.out 0
        have HV : Hid (OwnO flP.c 3 61 (wr.setCells g (i * 3) vs) g 0 (K bs bs.length) (K bs bs.length).length) := by
          have := hdr.out.cleared (by omega) vs
          rw [hi] at this
          unfold Hid
          rw [hi]
          exact this
        have hgf : w.grownBy (wr.setCells g (i * 3) vs) (some g) := gb_sets vs wr _ hgr
        obtain ⟨WF, hWF⟩ : ∃ WF, wr.setCells g (i * 3) vs = WF := ⟨_, rfl⟩
        rw [hWF] at hvs HV hgf
        have HWF : Hid (wr.setCells g (i * 3) vs = WF) := hWF
        clear hcd hi hWF HCL
        go_wp2
        refine bodyPost_ret (v := .slice (some ⟨g, 0, none⟩) i cap) (by simp [results, Tryz.results63, go_sem]) rfl ?_
        rw [← K_all]
        exact ⟨by rw [HI.out], HV.out, hgf⟩
end Go.Proofs.YtoemkbooomgieaaGreatDoor.dg
