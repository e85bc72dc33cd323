/- FnInts' functions, told against the world in which the law was entered. -/
import Derived.Test.YtkddnennodonhaaDoorIntsPlain
import Derived.Test.YtkddnennodonhaaDoorDrawInts
namespace Go.Proofs.YtkddnennodonhaaDoor.it
open Go.ChangeShapes Go.WideShapes Go.ChangeAt Go.RowKit

/-- nothing that was there when the law was entered is turned -/
def T (w W : World) : Prop := Below w.heap.size w W
theorem T.refl (w : World) : T w w := Below.refl _ _
theorem T.next {w W W' : World} (h : T w W) (h2 : Below W.heap.size W W') : T w W' := Below.trans h (h2.mono (Below.size h))
theorem T.drew {w W : World} (h : T w W) : T w W.drew := Below.drew h

theorem var_lt {P : Program} {w : World} {n : String} {g : Nat} {cs : Array Value} (hg : P.globalNamed n = some g) (h : w.var? P n = some cs) : g < w.heap.size := by
  unfold World.var? at h
  simp only [hg, Option.bind_some] at h
  by_cases hlt : g < w.heap.size
  · exact hlt
  · rw [Array.getElem?_eq_none (by omega)] at h
    cases h
theorem gES : Tryd.prog.globalNamed "strconv.ErrSyntax" = some 1 := by kernel_rfl
theorem gER : Tryd.prog.globalNamed "strconv.ErrRange" = some 2 := by kernel_rfl
theorem lib {w W : World} (h : rd.Lib0 w) (hT : T w W) : rd.Lib0 W := by
  obtain ⟨h0, ⟨t0, p0, h1⟩, ⟨t1, p1, h2⟩⟩ := h
  exact ⟨var?_below hT rd.gPow (rd.pow_lt h0) h0, ⟨t0, p0, var?_below hT gES (var_lt gES h1) h1⟩, ⟨t1, p1, var?_below hT gER (var_lt gER h2) h2⟩⟩

section
variable {w : World} {a : Option Addr} {len cap : Nat}
theorem code (hc : dw.Code w w.heap.size a len) {W : World} (hT : T w W) : dw.Code W W.heap.size a len := hc.top hT

theorem cDrawPutInt (hlen : len ≤ 1048576) (hc : dw.Code w w.heap.size a len) (W : World) (hT : T w W) :
    Calls Tryd.prog 10 #[.slice a len cap] W fun e w' => (∃ n z : Int, -9223372036854775808 ≤ n ∧ n ≤ 9223372036854775807 ∧ -1 ≤ z ∧ z ≤ 8 ∧ e = .returned (.tuple #[.int .i64 n, .int .i64 z])) ∧ T w w' :=
  (dw.draw_PutInt a len cap W hlen (code hc hT)).mono fun _ _ h => ⟨h.1, hT.next h.2⟩
theorem cDrawDecText (hlen : len ≤ 1048576) (hc : dw.Code w w.heap.size a len) (W : World) (hT : T w W) :
    Calls Tryd.prog 16 #[.slice a len cap] W fun e w' => (∃ n : Int, -9223372036854775808 ≤ n ∧ n ≤ 9223372036854775807 ∧ e = .returned (.int .i64 n)) ∧ T w w' :=
  (dw.draw_DecText a len cap W hlen (code hc hT)).mono fun _ _ h => ⟨h.1, hT.next h.2⟩
theorem cDrawReadDec (hlen : len ≤ 1048576) (hc : dw.Code w w.heap.size a len) (W : World) (hT : T w W) :
    Calls Tryd.prog 15 #[.slice a len cap] W fun e w' => (∃ s : ByteArray, s.size ≤ 20 ∧ e = .returned (.string s)) ∧ T w w' :=
  (dw.draw_ReadDec a len cap W hlen (code hc hT)).mono fun _ _ h => ⟨h.1, hT.next h.2⟩
theorem cDrawGetInt (hlen : len ≤ 1048576) (hc : dw.Code w w.heap.size a len) (W : World) (hT : T w W) :
    Calls Tryd.prog 12 #[.slice a len cap] W fun e w' => (∃ (s : ByteArray) (i z : Int), s.size ≤ 20 ∧ -1 ≤ i ∧ i ≤ 9223372036854775807 ∧ -1 ≤ z ∧ z ≤ 8 ∧ e = .returned (.tuple #[.string s, .int .i64 i, .int .i64 z])) ∧ T w w' :=
  (dw.draw_GetInt a len cap W hlen (code hc hT)).mono fun _ _ h => ⟨h.1, hT.next h.2⟩
end

theorem cPutI {w : World} {n z : Int} {s : ByteArray} (hn : n ≤ 9223372036854775807) (hs : pi.text n z = s) (W : World) (hT : T w W) :
    Calls Tryd.prog 11 #[.int .i64 n, .int .i64 z] W fun e w' => e = .returned (.string s) ∧ T w w' := by
  subst hs
  exact (pi.impl_put n z W hn).mono fun _ _ h => ⟨h.1, hT.next h.2⟩
theorem cPutS {w : World} {n z : Int} {s : ByteArray} (hn : n ≤ 9223372036854775807) (hs : pi.text n z = s) (W : World) (hT : T w W) :
    Calls Tryd.prog 17 #[.int .i64 n, .int .i64 z] W fun e w' => e = .returned (.string s) ∧ T w w' := by
  subst hs
  exact (pi.spec_put n z W hn).mono fun _ _ h => ⟨h.1, hT.next h.2⟩
theorem cGetI {w : World} {u : ByteArray} {i k x t : Int} (hu : u.size ≤ 1048576) (h1 : -9223372036854775808 ≤ i) (h2 : i ≤ 9223372036854775807) (hx : gi.num u i k = x) (ht : gi.stop u i k = t) (W : World) (hT : T w W) :
    Calls Tryd.prog 13 #[.string u, .int .i64 i, .int .i64 k] W fun e w' => e = .returned (.tuple #[.int .i64 x, .int .i64 t]) ∧ T w w' := by
  subst hx ht
  exact (gi.impl_get u i k W hu h1 h2).mono fun _ _ h => ⟨h.1, by rw [h.2]; exact hT⟩
theorem cGetS {w : World} {u : ByteArray} {i k x t : Int} (hu : u.size ≤ 1048576) (h1 : -9223372036854775808 ≤ i) (h2 : i ≤ 9223372036854775807) (hx : gi.num u i k = x) (ht : gi.stop u i k = t) (W : World) (hT : T w W) :
    Calls Tryd.prog 14 #[.string u, .int .i64 i, .int .i64 k] W fun e w' => e = .returned (.tuple #[.int .i64 x, .int .i64 t]) ∧ T w w' := by
  subst hx ht
  exact (gi.spec_get u i k W hu h1 h2).mono fun _ _ h => ⟨h.1, by rw [h.2]; exact hT⟩
theorem cReadI {w : World} {d : ByteArray} {v : Int} (hl : rd.Lib0 w) (hd : d.size ≤ 1048576) (hv : rd.val d.data.toList = v) (W : World) (hT : T w W) :
    Calls Tryd.prog 18 #[.string d] W fun e w' => e = .returned (.int .i64 v) ∧ T w w' := by
  subst hv
  exact (rd.impl_read' d W hd (lib hl hT)).mono fun _ _ h => ⟨h.1, hT.next h.2⟩
theorem cReadS {w : World} {d : ByteArray} {v : Int} (hd : d.size ≤ 1048576) (hv : rd.val d.data.toList = v) (W : World) (hT : T w W) :
    Calls Tryd.prog 19 #[.string d] W fun e w' => e = .returned (.int .i64 v) ∧ T w w' := by
  subst hv
  exact (rd.spec_read d W hd).mono fun _ _ h => ⟨h.1, by rw [← h.2]; exact hT⟩
theorem cDecI {w : World} {n : Int} {s : ByteArray} (hl : rd.Lib0 w) (h0 : -9223372036854775808 ≤ n) (h1 : n ≤ 9223372036854775807) (hs : (⟨(Lib.itoa n).toArray⟩ : ByteArray) = s) (W : World) (hT : T w W) :
    Calls Tryd.prog 20 #[.int .i64 n] W fun e w' => e = .returned (.string s) ∧ T w w' := by
  subst hs
  exact (di.impl_dec n W h0 h1 (lib hl hT).1).mono fun _ _ h => ⟨h.1, hT.next h.2⟩
theorem cDecS {w : World} {n : Int} {s : ByteArray} (h0 : -9223372036854775808 ≤ n) (h1 : n ≤ 9223372036854775807) (hs : (⟨(Lib.itoa n).toArray⟩ : ByteArray) = s) (W : World) (hT : T w W) :
    Calls Tryd.prog 21 #[.int .i64 n] W fun e w' => e = .returned (.string s) ∧ T w w' := by
  subst hs
  exact (dt.spec_dec n W h0 h1).mono fun _ _ h => ⟨h.1, by rw [← h.2]; exact hT⟩
end Go.Proofs.YtkddnennodonhaaDoor.it
