/- Lists of streams as they lie; the laws' weighing of them. -/
import Derived.Test.YtpkljkahdclcgaaGreatStreamLib
namespace Go.Proofs.YtpkljkahdclcgaaGreat.su
open Go.ChangeShapes Go.WideShapes Go.ChangeAt Go.RowKit Go.Proofs.YtpkljkahdclcgaaGreat.fl
set_option linter.unusedVariables false

/-- a stream as it lies: where its two lists lie, and their room -/
structure E where
  nm : ByteArray
  lo : Int
  nx : Int
  ra : Option Addr
  rc : Nat
  rs : List flY.En
  ha : Option Addr
  hc : Nat
  hs : List rr.Ex
def c (r : E) : List Value := [.string r.nm, .int .i64 r.lo, .int .i64 r.nx, .slice r.ra r.rs.length r.rc, .slice r.ha r.hs.length r.hc]
theorem c_len (r : E) : (c r).length = 5 := rfl
def V (w : World) (B : Nat) (a : Option Addr) (l : List E) : Prop := Row c 5 w B a l ∧ ∀ r ∈ l, Row flY.c 3 w B r.ra r.rs ∧ Row flK.c 2 w B r.ha r.hs
theorem V.inn {w w' : World} {a : Option Addr} {l : List E} (h : V w w.heap.size a l) (hb : Below w.heap.size w w') : V w' w'.heap.size a l := ⟨h.1.inn hb, fun r hr => ⟨(h.2 r hr).1.inn hb, (h.2 r hr).2.inn hb⟩⟩
def wt (r : E) : Nat := r.nm.size + r.rs.length + bulk flY.wt r.rs + r.hs.length + bulk flK.wt r.hs
def ok (r : E) : Prop := r.nm.size ≤ maxLen ∧ r.rs.length ≤ maxLen ∧ r.hs.length ≤ maxLen ∧ (∀ e ∈ r.rs, flY.ok e) ∧ ∀ e ∈ r.hs, flK.ok e

set_option maxRecDepth 100000 in
set_option maxHeartbeats 1000000 in
theorem sz_one (nm : ByteArray) (lo nx : Int) (rs : List flY.En) (hs : List rr.Ex) (ra ha : Option Addr) (rc hc : Nat) (left : Int) (w : World) (h0 : -1 ≤ left) (h1 : left ≤ 1048576) (hnm : nm.size ≤ maxLen) (hrl : rs.length ≤ maxLen) (hhl : hs.length ≤ maxLen) (hro : ∀ e ∈ rs, flY.ok e) (hho : ∀ e ∈ hs, flK.ok e) (hR : Row flY.c 3 w w.heap.size ra rs) (hH : Row flK.c 2 w w.heap.size ha hs) :
    Calls Tryz.prog 78 #[.agg #[.string nm, .int .i64 lo, .int .i64 nx, .slice ra rs.length rc, .slice ha hs.length hc], .int .i64 left] w fun e w' => ∃ r : Int, e = .returned (.int .i64 r) ∧ (0 ≤ r → r = left - nm.size - rs.length - bulk flY.wt rs - hs.length - bulk flK.wt hs) ∧ -1 ≤ r ∧ r ≤ 1048576 ∧ Below w.heap.size w w' := by
  have hnm' : nm.size ≤ 9223372036854775807 := hnm
  by_cases hneg : left - nm.size < 0
  · go_enter Tryz.func78, Tryz.ntmps78
    go_wp2
    go_ret
    exact ⟨-1, rfl, by omega, by omega, by omega, (Below.refl _ _).alloc (Nat.le_refl _) _⟩
  have hb : Below w.heap.size w (w.alloc (.cells #[.string nm, .int .i64 lo, .int .i64 nx, .slice ra rs.length rc, .slice ha hs.length hc] 115)) := (Below.refl _ _).alloc (Nat.le_refl _) _
  have hA := bnew w #[.string nm, .int .i64 lo, .int .i64 nx, .slice ra rs.length rc, .slice ha hs.length hc] 115
  obtain ⟨W, hW⟩ : ∃ W, w.alloc (.cells #[.string nm, .int .i64 lo, .int .i64 nx, .slice ra rs.length rc, .slice ha hs.length hc] 115) = W := ⟨_, rfl⟩
  rw [hW] at hb hA
  have he := flY.sz_all rs ra rc (left - nm.size) W hrl hro (by omega) (by omega) (hR.inn hb)
  have HB3 : Hid (Row flK.c 2 W W.heap.size ha hs) := hH.inn hb
  have x0 : W.cell? ⟨w.heap.size, 0, none⟩ = some (.string nm) := bcell hA rfl
  have x2 : W.cell? ⟨w.heap.size, 3, none⟩ = some (.slice ra rs.length rc) := bcell hA rfl
  have HA : Hid (W.heap[w.heap.size]? = some (.cells #[.string nm, .int .i64 lo, .int .i64 nx, .slice ra rs.length rc, .slice ha hs.length hc] 115 (0, 0))) := hA
  have la := (Array.getElem?_eq_some_iff.1 hA).1
  have HBS : Hid (∀ e ∈ hs, flK.ok e) := hho
  clear hR hH hA hro hho
  go_enter Tryz.func78, Tryz.ntmps78
  go_wp2_with (go_at_call 152; fail)
  refine he.mono ?_
  rintro e w1 ⟨r, rfl, hr, hr0, hr1, hb1⟩
  clear hW x0 x2
  by_cases hneg : r < 0
  · go_wp2
    go_ret
    exact ⟨-1, rfl, by omega, by omega, by omega, hb.trans (hb1.mono hb.size)⟩
  · have x1 : w1.cell? ⟨w.heap.size, 4, none⟩ = some (.slice ha hs.length hc) := bcell (bstay HA.out hb1 la) rfl
    have hq := flK.sz_all hs ha hc r w1 hhl HBS.out (by omega) (by omega) (HB3.out.inn hb1)
    have HR : Hid (r = left - nm.size - rs.length - bulk flY.wt rs) := hr (by omega)
    clear he hr
    go_wp2_with (go_at_call 153; fail)
    refine hq.mono ?_
    rintro e w2 ⟨r2, rfl, hr2, hr20, hr21, hb2⟩
    have hfin : Below w.heap.size w w2 := hb.trans ((hb1.trans (hb2.mono hb1.size)).mono hb.size)
    have HR2 : Hid (0 ≤ r2 → r2 = r - hs.length - bulk flK.wt hs) := hr2
    clear hq hr2
    by_cases hneg2 : r2 < 0
    · go_wp2
      go_ret
      exact ⟨-1, rfl, by omega, by omega, by omega, hfin⟩
    · go_wp2
      go_ret
      exact ⟨r2, rfl, fun h => by have h3 := HR2.out h; have h4 := HR.out; omega, by omega, by omega, hfin⟩

set_option maxRecDepth 100000 in
set_option maxHeartbeats 1000000 in
theorem sz_all (l : List E) (a : Option Addr) (cap : Nat) (left : Int) (w : World) (hl : l.length ≤ maxLen) (hx : ∀ e ∈ l, ok e) (h0 : -1 ≤ left) (h1 : left ≤ 1048576) (hS : V w w.heap.size a l) :
    Calls Tryz.prog 32 #[.slice a l.length cap, .int .i64 left] w fun e w' => ∃ r : Int, e = .returned (.int .i64 r) ∧ (0 ≤ r → r = left - l.length - bulk wt l) ∧ -1 ≤ r ∧ r ≤ 1048576 ∧ Below w.heap.size w w' := by
  have hl' := hl
  unfold maxLen at hl'
  by_cases hneg : left - l.length < 0
  · go_enter Tryz.func32, Tryz.ntmps32
    go_wp2
    go_ret
    exact ⟨-1, rfl, by omega, by omega, by omega, Below.refl _ _⟩
  have HVR : Hid (∀ r ∈ l, Row flY.c 3 w w.heap.size r.ra r.rs ∧ Row flK.c 2 w w.heap.size r.ha r.hs) := hS.2
  rcases hS.1 with rfl | ⟨b, off, rfl, hlt, hc⟩
  · go_enter Tryz.func32, Tryz.ntmps32
    go_wp2
    refine wp_loop_rounds 1 ?_
    rw [rounds_succ]
    go_wp2
    go_ret
    exact ⟨_, rfl, fun _ => by simp [bulk], by simp at hneg; omega, by simp at hneg; omega, Below.refl _ _⟩
  · have HC : Hid (∀ (i : Nat) (e : E), l[i]? = some e → ∀ (j : Nat) (v : Value), (c e)[j]? = some v → w.cell? ⟨b, off + i * 5 + j, none⟩ = some v) := hc
    have HX : Hid (∀ e ∈ l, ok e) := hx
    clear hc hx hS
    go_enter Tryz.func32, Tryz.ntmps32
    go_wp2
    go_loopw [1, 5] (fun y x wr => ∃ k : Nat, k ≤ l.length ∧ x = .int .i64 k ∧ y = .int .i64 (left - l.length - bulk wt (l.take k)) ∧ 0 ≤ left - l.length - bulk wt (l.take k) ∧ Below w.heap.size w wr) (fun _ x _ => l.length - (intOf x).toNat)
    case atStart => exact ⟨0, Nat.zero_le _, rfl, by simp [bulk], by simp [bulk]; omega, Below.refl _ _⟩
    case round =>
      obtain ⟨k, hk, rfl, rfl, hr0, hbel⟩ := hrel
      have hbs := hbel.size
      by_cases hkl : k < l.length
      · have HG : Hid (l[k]? = some l[k]) := List.getElem?_eq_getElem hkl
        have hxs := HX.out l[k] (List.getElem_mem hkl)
        have hrow := HVR.out l[k] (List.getElem_mem hkl)
        have HBK : Hid (bulk wt (l.take (k + 1)) = bulk wt (l.take k) + wt l[k]) := bulk_take wt hkl
        obtain ⟨⟨nm, lo, nx, ra, rc, rs, ha, hc, hs⟩, he⟩ : ∃ e, l[k] = e := ⟨_, rfl⟩
        rw [he] at hxs HBK HG hrow
        have c0 : wr.cell? ⟨b, off + k * 5, none⟩ = some (.string nm) := (hbel.cell (p := ⟨b, off + k * 5, none⟩) hlt).trans (by have := HC.out k _ HG.out 0 _ rfl; simpa using this)
        have c1 : wr.cell? ⟨b, off + k * 5 + 1, none⟩ = some (.int .i64 lo) := (hbel.cell (p := ⟨b, off + k * 5 + 1, none⟩) hlt).trans (by have := HC.out k _ HG.out 1 _ rfl; simpa using this)
        have c2 : wr.cell? ⟨b, off + k * 5 + 2, none⟩ = some (.int .i64 nx) := (hbel.cell (p := ⟨b, off + k * 5 + 2, none⟩) hlt).trans (by have := HC.out k _ HG.out 2 _ rfl; simpa using this)
        have c3 : wr.cell? ⟨b, off + k * 5 + 3, none⟩ = some (.slice ra rs.length rc) := (hbel.cell (p := ⟨b, off + k * 5 + 3, none⟩) hlt).trans (by have := HC.out k _ HG.out 3 _ rfl; simpa using this)
        have c4 : wr.cell? ⟨b, off + k * 5 + 4, none⟩ = some (.slice ha hs.length hc) := (hbel.cell (p := ⟨b, off + k * 5 + 4, none⟩) hlt).trans (by have := HC.out k _ HG.out 4 _ rfl; simpa using this)
        obtain ⟨m, hm⟩ : ∃ m, bulk wt (l.take k) = m := ⟨_, rfl⟩
        rw [hm] at HBK hr0 ⊢
        have hone := sz_one nm lo nx rs hs ra ha rc hc (left - l.length - m) wr (by omega) (by omega) hxs.1 hxs.2.1 hxs.2.2.1 hxs.2.2.2.1 hxs.2.2.2.2 ((hrow.1).inn hbel) ((hrow.2).inn hbel)
        obtain ⟨wv, hwt⟩ : ∃ wv, wt ⟨nm, lo, nx, ra, rc, rs, ha, hc, hs⟩ = wv := ⟨_, rfl⟩
        have HWV : Hid (nm.size + rs.length + bulk flY.wt rs + hs.length + bulk flK.wt hs = wv) := hwt
        rw [hwt] at HBK
        clear hm he hwt hxs hrow
        go_wp2_with (go_at_call 78; fail)
        refine hone.mono ?_
        rintro e w1 ⟨r, rfl, hr, hr1, hr2, hb1⟩
        clear hone c0 c1 c2 c3 c4
        by_cases hlo : r < 0
        · go_wp2
          go_ret
          exact ⟨-1, rfl, by omega, by omega, by omega, hbel.trans (hb1.mono hbs)⟩
        · have HRR : Hid (r = left - l.length - m - (wv : Int)) := by have h1 := hr (by omega); have h2 := HWV.out; unfold Hid; omega
          have hr3 : (0 : Int) ≤ r := by omega
          clear hr
          go_wp2
          go_roundw
          case rel => exact ⟨k + 1, by omega, by go_num, by rw [HBK.out, HRR.out]; congr 1; omega, by rw [HBK.out]; have := HRR.out; omega, hbel.trans (hb1.mono hbs)⟩
          case measure => simp [intOf]; omega
      · obtain rfl : k = l.length := by omega
        rw [List.take_length] at hr0 ⊢
        go_wp2
        go_ret
        exact ⟨_, rfl, fun _ => rfl, by omega, by omega, hbel⟩
end Go.Proofs.YtpkljkahdclcgaaGreat.su
