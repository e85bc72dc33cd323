/- FnStrings' functions, told against the world in which the law was entered. -/
import Derived.Test.YtkddnennodonhaaDoorDrawStrs
namespace Go.Proofs.YtkddnennodonhaaDoor.st
open Go.ChangeShapes Go.WideShapes Go.ChangeAt Go.RowKit

/-- nothing that was there when the law was entered is turned -/
def T (w W : World) : Prop := Below w.heap.size w W
theorem T.refl (w : World) : T w w := Below.refl _ _
theorem T.next {w W W' : World} (h : T w W) (h2 : Below W.heap.size W W') : T w W' := Below.trans h (h2.mono (Below.size h))
theorem T.drew {w W : World} (h : T w W) : T w W.drew := Below.drew h
theorem Code.top {w w' : World} {a : Option Addr} {len : Nat} (h : dw.Code w w.heap.size a len) (hb : Below w.heap.size w w') : dw.Code w' w'.heap.size a len := (h.below hb (Nat.le_refl _)).mono hb.size

/-- the program's table lies where the law was entered -/
def Tab (w : World) : Prop := 0 < w.heap.size ∧ ∀ r, r < 16 → w.cell? ⟨0, r, none⟩ = some (.int .u32 (cs.tab r : Int))
theorem Tab.at_T {w W : World} (h : Tab w) (hT : T w W) : ∀ r, r < 16 → W.cell? ⟨0, r, none⟩ = some (.int .u32 (cs.tab r : Int)) :=
  fun r hr => (Below.cell hT (p := ⟨0, r, none⟩) h.1).trans (h.2 r hr)

section
variable {w : World} {a : Option Addr} {len cap : Nat}
theorem cDrawPutShort (hlen : len ≤ 1048576) (hc : dw.Code w w.heap.size a len) (W : World) (hT : T w W) :
    Calls Tryd.prog 22 #[.slice a len cap] W fun e w' => (∃ s : ByteArray, s.size ≤ 256 ∧ e = .returned (.string s)) ∧ T w w' :=
  (ds.draw_PutShort a len cap W hlen (Code.top hc hT)).mono fun _ _ h => ⟨h.1, hT.next h.2⟩
theorem cDrawPutLong (hlen : len ≤ 1048576) (hc : dw.Code w w.heap.size a len) (W : World) (hT : T w W) :
    Calls Tryd.prog 23 #[.slice a len cap] W fun e w' => (∃ s : ByteArray, s.size ≤ 20 ∧ e = .returned (.string s)) ∧ T w w' :=
  (ds.draw_PutLong a len cap W hlen (Code.top hc hT)).mono fun _ _ h => ⟨h.1, hT.next h.2⟩
theorem cDrawCheckSum (hlen : len ≤ 1048576) (hc : dw.Code w w.heap.size a len) (W : World) (hT : T w W) :
    Calls Tryd.prog 34 #[.slice a len cap] W fun e w' => (∃ s : ByteArray, s.size ≤ 30 ∧ e = .returned (.string s)) ∧ T w w' :=
  (ds.draw_CheckSum a len cap W hlen (Code.top hc hT)).mono fun _ _ h => ⟨h.1, hT.next h.2⟩
theorem cDrawGetShort (hlen : len ≤ 1048576) (hc : dw.Code w w.heap.size a len) (W : World) (hT : T w W) :
    Calls Tryd.prog 26 #[.slice a len cap] W fun e w' => (∃ (s : ByteArray) (i : Int), s.size ≤ 20 ∧ -1 ≤ i ∧ i ≤ 2 ∧ e = .returned (.tuple #[.string s, .int .i64 i])) ∧ T w w' :=
  (ds.draw_GetShort a len cap W hlen (Code.top hc hT)).mono fun _ _ h => ⟨h.1, hT.next h.2⟩
theorem cDrawGetLong (hlen : len ≤ 1048576) (hc : dw.Code w w.heap.size a len) (W : World) (hT : T w W) :
    Calls Tryd.prog 29 #[.slice a len cap] W fun e w' => (∃ (s : ByteArray) (i : Int), s.size ≤ 20 ∧ -1 ≤ i ∧ i ≤ 2 ∧ e = .returned (.tuple #[.string s, .int .i64 i])) ∧ T w w' :=
  (ds.draw_GetLong a len cap W hlen (Code.top hc hT)).mono fun _ _ h => ⟨h.1, hT.next h.2⟩
end

theorem cPSI {w : World} {a s : ByteArray} (ha : a.size ≤ 1048576) (hs : ps.out a = s) (W : World) (hT : T w W) :
    Calls Tryd.prog 24 #[.string a] W fun e w' => e = .returned (.string s) ∧ T w w' := by
  subst hs
  exact (ps.impl_putShort a W ha).mono fun _ _ h => ⟨h.1, hT.next h.2⟩
theorem cPSS {w : World} {a s : ByteArray} (ha : a.size ≤ 1048576) (hs : ps.out a = s) (W : World) (hT : T w W) :
    Calls Tryd.prog 32 #[.string a] W fun e w' => e = .returned (.string s) ∧ T w w' := by
  subst hs
  exact (ps.spec_putShort a W ha).mono fun _ _ h => ⟨h.1, hT.next h.2⟩
theorem cPLI {w : World} {a s : ByteArray} (ha : a.size ≤ 1048576) (hs : pl.out a = s) (W : World) (hT : T w W) :
    Calls Tryd.prog 25 #[.string a] W fun e w' => e = .returned (.string s) ∧ T w w' := by
  subst hs
  exact (pl.impl_putLong a W ha).mono fun _ _ h => ⟨h.1, hT.next h.2⟩
theorem cPLS {w : World} {a s : ByteArray} (ha : a.size ≤ 1048576) (hs : pl.out a = s) (W : World) (hT : T w W) :
    Calls Tryd.prog 33 #[.string a] W fun e w' => e = .returned (.string s) ∧ T w w' := by
  subst hs
  exact (pl.spec_putLong a W ha).mono fun _ _ h => ⟨h.1, hT.next h.2⟩
theorem cGSI {w : World} {u x : ByteArray} {i t : Int} (hu : u.size ≤ 1048576) (h1 : -9223372036854775808 ≤ i) (h2 : i ≤ 9223372036854775807) (hx : gs.text u i = x) (ht : gs.behind u i = t) (W : World) (hT : T w W) :
    Calls Tryd.prog 27 #[.string u, .int .i64 i] W fun e w' => e = .returned (.tuple #[.string x, .int .i64 t]) ∧ T w w' := by
  subst hx ht
  exact (gs.impl_getShort u i W hu h1 h2).mono fun _ _ h => ⟨h.1, hT.next h.2⟩
theorem cGSS {w : World} {u x : ByteArray} {i t : Int} (hu : u.size ≤ 1048576) (h1 : -9223372036854775808 ≤ i) (h2 : i ≤ 9223372036854775807) (hx : gs.text u i = x) (ht : gs.behind u i = t) (W : World) (hT : T w W) :
    Calls Tryd.prog 28 #[.string u, .int .i64 i] W fun e w' => e = .returned (.tuple #[.string x, .int .i64 t]) ∧ T w w' := by
  subst hx ht
  exact (gs.spec_getShort u i W hu h1 h2).mono fun _ _ h => ⟨h.1, hT.next h.2⟩
theorem cGLI {w : World} {u x : ByteArray} {i t : Int} (hu : u.size ≤ 1048576) (h1 : -9223372036854775808 ≤ i) (h2 : i ≤ 9223372036854775807) (hx : gl.text u i = x) (ht : gl.behind u i = t) (W : World) (hT : T w W) :
    Calls Tryd.prog 30 #[.string u, .int .i64 i] W fun e w' => e = .returned (.tuple #[.string x, .int .i64 t]) ∧ T w w' := by
  subst hx ht
  exact (gl.impl_getLong u i W hu h1 h2).mono fun _ _ h => ⟨h.1, hT.next h.2⟩
theorem cGLS {w : World} {u x : ByteArray} {i t : Int} (hu : u.size ≤ 1048576) (h1 : -9223372036854775808 ≤ i) (h2 : i ≤ 9223372036854775807) (hx : gl.text u i = x) (ht : gl.behind u i = t) (W : World) (hT : T w W) :
    Calls Tryd.prog 31 #[.string u, .int .i64 i] W fun e w' => e = .returned (.tuple #[.string x, .int .i64 t]) ∧ T w w' := by
  subst hx ht
  exact (gl.spec_getLong u i W hu h1 h2).mono fun _ _ h => ⟨h.1, hT.next h.2⟩
theorem cSumI {w : World} {d : ByteArray} {v : Nat} (hl : Tab w) (hd : d.size ≤ 1048576) (hv : cs.sum d = v) (W : World) (hT : T w W) :
    Calls Tryd.prog 35 #[.string d] W fun e w' => e = .returned (.int .u32 v) ∧ W = w' := by
  subst hv
  exact (cs.impl_sum d W hd (hl.at_T hT)).mono fun _ _ h => ⟨h.1, h.2⟩
theorem cSumS {d : ByteArray} {v : Nat} (hd : d.size ≤ 1048576) (hv : cs.sum d = v) (W : World) :
    Calls Tryd.prog 36 #[.string d] W fun e w' => e = .returned (.int .u32 v) ∧ W = w' := by
  subst hv
  exact (cs.spec_sum d W hd).mono fun _ _ h => ⟨h.1, h.2⟩
theorem law_at {w : World} {a : Option Addr} {len cap : Nat} (i : Nat) (hlen : len ≤ 1048576) (hi : i ≤ 100) (hc : dw.Code w w.heap.size a len) :
    ∃ n : Nat, n < 256 ∧ ∀ W : World, T w W → Calls Tryd.prog 37 #[.slice a len cap, .int .i64 i] W fun e w' => e = .returned (.int .i64 n) ∧ W = w' := by
  by_cases hil : i < len
  · rcases hc with h0 | ⟨b, off, rfl, hb, hcells⟩
    · omega
    obtain ⟨v, hv, hcell0⟩ := hcells i hil
    clear hcells
    refine ⟨v, hv, fun W hT => ?_⟩
    have hcell := (Below.cell hT (p := ⟨b, off + i, none⟩) hb).trans hcell0
    clear hcell0
    go_enter Tryd.func37, Tryd.ntmps37
    go_wp2
    go_ret
    exact ⟨rfl, rfl⟩
  · clear hc
    refine ⟨(i * 7 + len) % 256, Nat.mod_lt _ (by decide), fun W _ => ?_⟩
    go_enter Tryd.func37, Tryd.ntmps37
    go_wp2
    go_ret
    exact ⟨by simp, rfl⟩
end Go.Proofs.YtkddnennodonhaaDoor.st
