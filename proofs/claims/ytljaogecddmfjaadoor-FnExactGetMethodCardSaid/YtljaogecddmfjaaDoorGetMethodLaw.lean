/- FnExactGetMethod: the walk of the law. -/
import Derived.Test.YtljaogecddmfjaaDoorGetImpl
import Derived.Test.YtljaogecddmfjaaDoorMarkRows
namespace Go.Proofs.YtljaogecddmfjaaDoor.gml
set_option linter.unusedVariables false
open Go.ChangeShapes Go.WideShapes Go.ChangeAt Go.RowKit Go.Proofs.YtljaogecddmfjaaDoor.ls Go.Proofs.YtljaogecddmfjaaDoor.me Go.Proofs.YtljaogecddmfjaaDoor.mp Go.Proofs.YtljaogecddmfjaaDoor.bx Go.Proofs.YtljaogecddmfjaaDoor.gm Go.Proofs.YtljaogecddmfjaaDoor.mr

def ansC (s : ByteArray) : Int := if ok s then cls s else 0
def ansI (s : ByteArray) : Int := if ok s then idn s else 0
def ansT (s : ByteArray) : List ByteArray := if ok s then (run s).2.1 else []
def ansN (s : ByteArray) : List Int := if ok s then (run s).2.2 else []

theorem rdL_len (s : ByteArray) (f : List UInt8) : ∀ (a : Int) (ts : List ByteArray) (ns : List Int), (rdL s f a ts ns).2.1.length ≤ ts.length + f.length ∧ (rdL s f a ts ns).2.2.length ≤ ns.length + f.length := by
  induction f with
  | nil => intro a ts ns; simp [rdL]
  | cons c f ih =>
    intro a ts ns
    unfold rdL
    split
    · simp
    · split
      · have := ih (gs.behind s a) (ts ++ [gs.text s a]) ns
        simp at this ⊢
        omega
      · have := ih (gi.stop s a ((c.toNat : Int) - 48)) ts (ns ++ [gi.num s a ((c.toNat : Int) - 48)])
        simp at this ⊢
        omega
theorem ans_len (s : ByteArray) : (ansT s).length ≤ 5 ∧ (ansN s).length ≤ 5 := by
  have h := rdL_len s (F (cls s) (idn s)) (at0 s) [] []
  have h5 := F_length (cls s) (idn s)
  unfold ansT ansN run
  split
  · simp at h ⊢; omega
  · simp

/-- what a call answers: a method whose lists lie in memory of their own -/
def Ans (s : ByteArray) (w : World) (e : Ending) (w' : World) : Prop :=
  ∃ (ta na : Option Addr) (tc nc : Nat), e = .returned (.tuple #[.agg #[.int .i64 (ansC s), .int .i64 (ansI s), .slice ta (ansT s).length tc, .slice na (ansN s).length nc], .bool (ok s)]) ∧
    RowT w' (.slice ta (ansT s).length tc) (ansT s) ∧ RowI w' (.slice na (ansN s).length nc) (ansN s) ∧ (∀ g, (Value.slice ta (ansT s).length tc).ownBlock = some g → (Value.slice na (ansN s).length nc).ownBlock ≠ some g) ∧
    (∀ g, (Value.slice ta (ansT s).length tc).ownBlock = some g → w.heap.size ≤ g ∧ g < w'.heap.size) ∧ (∀ g, (Value.slice na (ansN s).length nc).ownBlock = some g → w.heap.size ≤ g ∧ g < w'.heap.size) ∧ Below w.heap.size w w'
theorem ans_of {s : ByteArray} {w w' : World} {e : Ending} (h : Post s w e w') : Ans s w e w' := by
  unfold Post at h
  unfold Ans ansC ansI ansT ansN
  cases hk : ok s with
  | true =>
    rw [hk, if_pos rfl] at h
    obtain ⟨ta, na, tc, nc, he, h1, h2, h3, h4⟩ := h
    exact ⟨ta, na, tc, nc, by simpa using he, RowT.of_owns h1, RowI.of_owns h2, h3, fun g hg => own_lt h1 hg, fun g hg => own_lt h2 hg, h4⟩
  | false =>
    rw [hk] at h
    obtain ⟨he, h4⟩ := h
    exact ⟨none, none, 0, 0, by simpa using he, .inl ⟨rfl, rfl⟩, .inl ⟨rfl, rfl⟩, by simp [Value.ownBlock], by simp [Value.ownBlock], by simp [Value.ownBlock], h4⟩

theorem cells4 {w : World} {b : Nat} {x y z u : Value} {T : TypeId} (h : w.heap[b]? = some (.cells #[x, y, z, u] T (0, 0))) : w.cell? ⟨b, 0, none⟩ = some x ∧ w.cell? ⟨b, 1, none⟩ = some y ∧ w.cell? ⟨b, 2, none⟩ = some z ∧ w.cell? ⟨b, 3, none⟩ = some u :=
  ⟨cell_of (o := 0) h rfl, cell_of (o := 1) h rfl, cell_of (o := 2) h rfl, cell_of (o := 3) h rfl⟩
theorem stays {w w' : World} {b : Nat} {o : Obj} (hb : Below w.heap.size w w') (h : w.heap[b]? = some o) : w'.heap[b]? = some o := by rw [hb.block _ (Array.getElem?_eq_some_iff.1 h).1]; exact h

set_option maxRecDepth 100000 in
set_option maxHeartbeats 2000000 in
theorem walk_get (s : ByteArray) (w : World) (hsz : s.size ≤ maxLen) : Calls Tryd.prog 6 #[.string s] w fun e w' => e = .returned (.bool true) ∧ Below w.heap.size w w' := by
  by_cases hbig : (1048576 : Int) < s.size
  · go_enter Tryd.func6, Tryd.ntmps6
    go_wp2
    go_ret
    exact ⟨rfl, Below.refl _ _⟩
  have hs : s.size ≤ 1048576 := by omega
  have hspec := (gm.spec_get s w hs).mono fun e w' h => ans_of h
  have himpl := fun W => (gm.impl_get s W hs).mono fun e w' h => ans_of h
  obtain ⟨l1, l2⟩ := ans_len s
  unfold Ans at hspec himpl
  obtain ⟨c, hc⟩ : ∃ c, ansC s = c := ⟨_, rfl⟩
  obtain ⟨i, hi⟩ : ∃ i, ansI s = i := ⟨_, rfl⟩
  obtain ⟨ts, hts⟩ : ∃ ts, ansT s = ts := ⟨_, rfl⟩
  obtain ⟨ns, hns⟩ : ∃ ns, ansN s = ns := ⟨_, rfl⟩
  obtain ⟨k, hk⟩ : ∃ k, ok s = k := ⟨_, rfl⟩
  simp only [hc, hi, hts, hns, hk] at hspec himpl l1 l2
  clear hc hi hts hns hk
  go_enter Tryd.func6, Tryd.ntmps6
  go_wp2_with fail
  refine hspec.mono ?_
  rintro e w1 ⟨ta, na, tc, nc, rfl, hT1, hI1, hap1, ht1, hn1, hb1⟩
  have hs1 := hb1.size
  have himpl1 := himpl (w1.alloc (.cells #[.int .i64 c, .int .i64 i, .slice ta ts.length tc, .slice na ns.length nc] 27))
  have HT1 : Hid (RowT w1 (.slice ta ts.length tc) ts) := hT1
  have HI1 : Hid (RowI w1 (.slice na ns.length nc) ns) := hI1
  clear hspec hT1 hI1 hap1 ht1 hn1
  go_wp2_with fail
  refine himpl1.mono ?_
  rintro e w3 ⟨ua, ma, uc, mc, rfl, hT3, hI3, hap3, ht3, hn3, hb3⟩
  have bk3 := stays hb3 (heap_alloc_new w1 _)
  have hs3 := hb3.size
  simp at hs3
  have hbA : Below w1.heap.size w1 w3 := ((Below.refl _ _).alloc (Nat.le_refl _) _).trans (hb3.mono (by simp))
  obtain ⟨a0, a1, a2, a3⟩ := cells4 bk3
  have BK3 : Hid (w3.heap[w1.heap.size]? = some (.cells #[.int .i64 c, .int .i64 i, .slice ta ts.length tc, .slice na ns.length nc] 27 (0, 0))) := bk3
  have h4 : Below w3.heap.size w3 (w3.alloc (.cells #[.int .i64 c, .int .i64 i, .slice ua ts.length uc, .slice ma ns.length mc] 27)) := (Below.refl _ _).alloc (Nat.le_refl _) _
  have hbB : Below w1.heap.size w1 (w3.alloc (.cells #[.int .i64 c, .int .i64 i, .slice ua ts.length uc, .slice ma ns.length mc] 27)) := hbA.trans (h4.mono (by omega))
  have heq := eq_method c i ts ns ua ma ta na uc mc tc nc (w3.alloc (.cells #[.int .i64 c, .int .i64 i, .slice ua ts.length uc, .slice ma ns.length mc] 27)) (by omega) (by omega) (hT3.below h4).sl (hI3.below h4).sl (HT1.out.below hbB).sl (HI1.out.below hbB).sl
  have HT3 : Hid (RowT (w3.alloc (.cells #[.int .i64 c, .int .i64 i, .slice ua ts.length uc, .slice ma ns.length mc] 27)) (.slice ua ts.length uc) ts) := hT3.below h4
  have HI3 : Hid (RowI (w3.alloc (.cells #[.int .i64 c, .int .i64 i, .slice ua ts.length uc, .slice ma ns.length mc] 27)) (.slice ma ns.length mc) ns) := hI3.below h4
  have HAP : Hid (∀ g, (Value.slice ua ts.length uc).ownBlock = some g → (Value.slice ma ns.length mc).ownBlock ≠ some g) := hap3
  have HTB : Hid (∀ g, (Value.slice ua ts.length uc).ownBlock = some g → w1.heap.size + 1 ≤ g ∧ g < w3.heap.size) := fun g hg => by have := ht3 g hg; simpa using this
  have HNB : Hid (∀ g, (Value.slice ma ns.length mc).ownBlock = some g → w1.heap.size + 1 ≤ g ∧ g < w3.heap.size) := fun g hg => by have := hn3 g hg; simpa using this
  have hlt3 : w1.heap.size < w3.heap.size := by omega
  obtain ⟨b0, b1, b2, b3⟩ := cells4 (stays h4 BK3.out)
  clear himpl1 bk3 hT3 hI3 hap3 ht3 hn3 hb3
  go_wp2_with fail
  refine heq.mono ?_
  rintro e w5 ⟨rfl, hb5⟩
  clear a0 a1 a2 a3 b0 b1 b2 b3
  have bg5 := stays hb5 (heap_alloc_new w3 (.cells #[.int .i64 c, .int .i64 i, .slice ua ts.length uc, .slice ma ns.length mc] 27))
  have bw5 := stays hb5 (stays h4 BK3.out)
  have hs5 := hb5.size
  simp at hs5
  obtain ⟨a0, a1, a2, a3⟩ := cells4 bg5
  have hbw5 := hbB.trans (hb5.mono (by simp; omega))
  have HG5 : Hid (w5.heap[w3.heap.size]? = some (.cells #[.int .i64 c, .int .i64 i, .slice ua ts.length uc, .slice ma ns.length mc] 27 (0, 0))) := bg5
  have HW5 : Hid (w5.heap[w1.heap.size]? = some (.cells #[.int .i64 c, .int .i64 i, .slice ta ts.length tc, .slice na ns.length nc] 27 (0, 0))) := bw5
  have HB5 : Hid (Below w1.heap.size w1 w5) := hbw5
  have hmk := mark_method c i ts ns ua ma uc mc w5 (by omega) (by omega) (HT3.out.below hb5) (HI3.out.below hb5) HAP.out
  clear heq bg5 bw5 hb5 hbB h4 hbA hbw5
  go_wp2_with fail
  refine hmk.mono ?_
  rintro e w6 ⟨rfl, hT6, hI6, htn⟩
  clear a0 a1 a2 a3
  have hs6 := htn.size
  have bg6 : w6.heap[w3.heap.size]? = some (.cells #[.int .i64 c, .int .i64 i, .slice ua ts.length uc, .slice ma ns.length mc] 27 (0, 0)) := (htn.block _ (by omega) (fun e => by have := HTB.out _ e; omega) (fun e => by have := HNB.out _ e; omega)).trans HG5.out
  have bw6 : w6.heap[w1.heap.size]? = some (.cells #[.int .i64 c, .int .i64 i, .slice ta ts.length tc, .slice na ns.length nc] 27 (0, 0)) := (htn.block _ (by omega) (fun e => by have := HTB.out _ e; omega) (fun e => by have := HNB.out _ e; omega)).trans HW5.out
  have hbw6 : Below w1.heap.size w1 w6 := HB5.out.trans (htn.below (by omega) (fun g hg => by have := HTB.out _ hg; omega) (fun g hg => by have := HNB.out _ hg; omega))
  obtain ⟨a0, a1, a2, a3⟩ := cells4 bg6
  have hhd := held_method c i ts.length ns.length ua ma uc mc w6 (by omega) (by omega) hT6 hI6
  have HG6 : Hid (w6.heap[w3.heap.size]? = some (.cells #[.int .i64 c, .int .i64 i, .slice ua ts.length uc, .slice ma ns.length mc] 27 (0, 0))) := bg6
  have HW6 : Hid (w6.heap[w1.heap.size]? = some (.cells #[.int .i64 c, .int .i64 i, .slice ta ts.length tc, .slice na ns.length nc] 27 (0, 0))) := bw6
  have HB6 : Hid (Below w1.heap.size w1 w6) := hbw6
  have HT6 : Hid (RowT w6 (.slice ua ts.length uc) (marksT 1 ts.length)) := hT6
  have HI6 : Hid (RowI w6 (.slice ma ns.length mc) (marksI (1 + ts.length) ns.length)) := hI6
  clear hmk bg6 bw6 hbw6 hT6 hI6 htn
  go_wp2_with fail
  refine hhd.mono ?_
  rintro e w7 ⟨rfl, hb7⟩
  clear a0 a1 a2 a3
  have hs7 := hb7.size
  have himpl7 := himpl w7
  clear hhd himpl
  go_wp2_with fail
  refine himpl7.mono ?_
  rintro e w8 ⟨xa, ya, xc, yc, rfl, hT8, hI8, _, _, _, hb8⟩
  have hs8 := hb8.size
  have h9 : Below w8.heap.size w8 (w8.alloc (.cells #[.int .i64 c, .int .i64 i, .slice xa ts.length xc, .slice ya ns.length yc] 27)) := (Below.refl _ _).alloc (Nat.le_refl _) _
  have hb79 : Below w6.heap.size w6 w8 := hb7.trans (hb8.mono hs7)
  have hbw8 : Below w1.heap.size w1 w8 := HB6.out.trans (hb79.mono (by omega))
  have hbw9 : Below w1.heap.size w1 (w8.alloc (.cells #[.int .i64 c, .int .i64 i, .slice xa ts.length xc, .slice ya ns.length yc] 27)) := hbw8.trans (h9.mono (by omega))
  have bw8 := stays hb79 HW6.out
  obtain ⟨a0, a1, a2, a3⟩ := cells4 bw8
  have heq9 := eq_method c i ts ns xa ya ta na xc yc tc nc (w8.alloc (.cells #[.int .i64 c, .int .i64 i, .slice xa ts.length xc, .slice ya ns.length yc] 27)) (by omega) (by omega) (hT8.below h9).sl (hI8.below h9).sl (HT1.out.below hbw9).sl (HI1.out.below hbw9).sl
  have HG8 : Hid (w8.heap[w3.heap.size]? = some (.cells #[.int .i64 c, .int .i64 i, .slice ua ts.length uc, .slice ma ns.length mc] 27 (0, 0))) := stays hb79 HG6.out
  have HT8 : Hid (RowT w8 (.slice ua ts.length uc) (marksT 1 ts.length)) := HT6.out.below hb79
  have HI8 : Hid (RowI w8 (.slice ma ns.length mc) (marksI (1 + ts.length) ns.length)) := HI6.out.below hb79
  have hlt8 : w1.heap.size < w8.heap.size := by omega
  obtain ⟨b0, b1, b2, b3⟩ := cells4 (stays h9 bw8)
  clear himpl7 bw8 hT8 hI8 hb7 hb8 hb79 hbw8
  go_wp2_with fail
  refine heq9.mono ?_
  rintro e w10 ⟨rfl, hb10⟩
  clear a0 a1 a2 a3 b0 b1 b2 b3
  have hs10 := hb10.size
  simp at hs10
  have hb810 : Below w8.heap.size w8 w10 := h9.trans (hb10.mono (by simp))
  have bg10 := stays hb810 HG8.out
  obtain ⟨a0, a1, a2, a3⟩ := cells4 bg10
  have hhd10 := held_method c i ts.length ns.length ua ma uc mc w10 (by omega) (by omega) (HT8.out.below hb810) (HI8.out.below hb810)
  have hbw10 : Below w.heap.size w w10 := (hb1.trans (hbw9.mono hs1)).trans (hb10.mono (by simp; omega))
  clear heq9 bg10 h9 hbw9 hb10 hb810
  go_wp2_with fail
  refine hhd10.mono ?_
  rintro e w11 ⟨rfl, hb11⟩
  clear a0 a1 a2 a3
  go_wp2
  go_ret
  exact ⟨rfl, hbw10.trans (hb11.mono hbw10.size)⟩
end Go.Proofs.YtljaogecddmfjaaDoor.gml
