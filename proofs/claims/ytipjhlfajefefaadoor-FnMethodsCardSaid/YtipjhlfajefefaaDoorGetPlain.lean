/- What GetMethod answers, as a plain function of the bytes. -/
import Derived.Test.YtipjhlfajefefaaDoorBoxRows
import Derived.Test.YtipjhlfajefefaaDoorGetShortWalks
namespace Go.Proofs.YtipjhlfajefefaaDoor.gm
set_option linter.unusedVariables false
open Go.ChangeShapes Go.WideShapes Go.ChangeAt Go.RowKit Go.Proofs.YtipjhlfajefefaaDoor.ls Go.Proofs.YtipjhlfajefefaaDoor.me Go.Proofs.YtipjhlfajefefaaDoor.mp Go.Proofs.YtipjhlfajefefaaDoor.bx

/-- the parts that a form's letters tell, from place a on: behind them, the texts, the numbers -/
def rdL (s : ByteArray) : List UInt8 → Int → List ByteArray → List Int → Int × List ByteArray × List Int
  | [], a, ts, ns => (a, ts, ns)
  | c :: f, a, ts, ns => if a < 0 then (a, ts, ns) else if c = 115 then rdL s f (gs.behind s a) (ts ++ [gs.text s a]) ns else rdL s f (gi.stop s a ((c.toNat : Int) - 48)) ts (ns ++ [gi.num s a ((c.toNat : Int) - 48)])

theorem rdL_neg {s : ByteArray} {f : List UInt8} {a : Int} {ts : List ByteArray} {ns : List Int} (h : a < 0) : rdL s f a ts ns = (a, ts, ns) := by
  cases f with
  | nil => rfl
  | cons c f => simp [rdL, h]
theorem rdL_text {s : ByteArray} {f : List UInt8} {a : Int} {ts : List ByteArray} {ns : List Int} (h : 0 ≤ a) : rdL s (115 :: f) a ts ns = rdL s f (gs.behind s a) (ts ++ [gs.text s a]) ns := by
  have : ¬ a < 0 := by omega
  simp [rdL, this]
theorem rdL_num {s : ByteArray} {f : List UInt8} {c : UInt8} {a : Int} {ts : List ByteArray} {ns : List Int} (h : 0 ≤ a) (hc : c ≠ 115) : rdL s (c :: f) a ts ns = rdL s f (gi.stop s a ((c.toNat : Int) - 48)) ts (ns ++ [gi.num s a ((c.toNat : Int) - 48)]) := by
  have : ¬ a < 0 := by omega
  simp [rdL, this, hc]

def cls (s : ByteArray) : Int := gi.num s 0 2
def idn (s : ByteArray) : Int := gi.num s 2 2
def at0 (s : ByteArray) : Int := gi.stop s 2 2
def run (s : ByteArray) : Int × List ByteArray × List Int := rdL s (F (cls s) (idn s)) (at0 s) [] []
/-- WHETHER THERE IS A METHOD; it has the class cls, the number idn and the lists of run -/
def ok (s : ByteArray) : Bool := !decide (at0 s < 0) && (fo.known (cls s) (idn s)).isSome && decide ((run s).1 = s.size)

theorem stop_bound (s : ByteArray) (a z : Int) : gi.stop s a z = -1 ∨ 0 ≤ gi.stop s a z ∧ gi.stop s a z ≤ s.size := by
  unfold gi.stop
  by_cases h : gi.okAt s a z = true
  · rw [if_pos h]
    right
    simp only [gi.okAt, Bool.and_eq_true, decide_eq_true_eq] at h
    obtain ⟨⟨⟨h1, h2⟩, h3⟩, _⟩ := h
    have : 0 ≤ z := by
      unfold sz.mostOf at h1
      repeat' split at h1
      all_goals omega
    omega
  · rw [if_neg h]; exact .inl rfl
theorem behind_bound (s : ByteArray) (a : Int) : gs.behind s a = -1 ∨ 0 ≤ gs.behind s a ∧ gs.behind s a ≤ s.size := by
  unfold gs.behind
  by_cases h : gs.here s a = true
  · rw [if_pos h]
    right
    have h' := h
    simp only [gs.here, Bool.and_eq_true, decide_eq_true_eq] at h
    obtain ⟨⟨h1, h2⟩, h3⟩ := h
    have := gs.parts s a h1
    omega
  · rw [if_neg h]; exact .inl rfl

/-- the program asks for the number where the class ends -/
theorem second (s : ByteArray) : gi.num s (gi.stop s 0 2) 2 = idn s ∧ gi.stop s (gi.stop s 0 2) 2 = at0 s := by
  unfold idn at0
  by_cases h : gi.okAt s 0 2 = true
  · have : gi.stop s 0 2 = 2 := by unfold gi.stop; rw [if_pos h]; rfl
    rw [this]
    exact ⟨rfl, rfl⟩
  · have h1 : gi.stop s 0 2 = -1 := by unfold gi.stop; rw [if_neg h]
    have hm : sz.mostOf 2 = 65535 := by decide
    have h2 : gi.okAt s 2 2 = false := by
      simp only [gi.okAt, hm] at h ⊢
      simp at h ⊢
      omega
    have h3 : gi.okAt s (-1) 2 = false := by simp [gi.okAt]
    rw [h1]
    simp [gi.num, gi.stop, h2, h3]
theorem num_wf (s : ByteArray) (a z : Int) : (Lit.int .i64 (gi.num s a z)).wf = true := by
  unfold gi.num
  by_cases h : gi.okAt s a z = true
  · rw [if_pos h]
    simp only [gi.okAt, Bool.and_eq_true, decide_eq_true_eq] at h
    obtain ⟨⟨⟨h1, h2⟩, h3⟩, h4⟩ := h
    have hz : z = 1 ∨ z = 2 ∨ z = 4 ∨ z = 8 := by
      unfold sz.mostOf at h1
      repeat' split at h1
      all_goals omega
    have hb := gi.gi_wrap s a.toNat z.toNat (by
      rcases hz with rfl | rfl | rfl | rfl
      · left; decide
      · left; decide
      · left; decide
      · right
        simp at h4
        exact ⟨by decide, by omega⟩)
    have hw := hb.1
    simp only [wrap64] at hw
    exact WalkArith.wf_i64 (by omega)
  · rw [if_neg h]; rfl

theorem own_slice {w : World} {B : Nat} {e : TypeId} {v : Value} {n : Nat} {xs : List Value} (h : w.ownsRow B e 1 v n xs) : ∃ a c, v = .slice a n c := by
  obtain ⟨_, ⟨rfl, rfl⟩ | ⟨g, cap, cur, rfl, _⟩⟩ := h
  · exact ⟨none, 0, rfl⟩
  · exact ⟨_, cap, rfl⟩

/-- WHAT A CALL ANSWERS -/
def Post (s : ByteArray) (w : World) (e : Ending) (w' : World) : Prop :=
  if ok s then ∃ (ta na : Option Addr) (tc nc : Nat), e = .returned (.tuple #[.agg #[.int .i64 (cls s), .int .i64 (idn s), .slice ta (run s).2.1.length tc, .slice na (run s).2.2.length nc], .bool true]) ∧
      w'.ownsRow w.heap.size 9 1 (.slice ta (run s).2.1.length tc) (run s).2.1.length ((run s).2.1.map Value.string) ∧ w'.ownsRow w.heap.size 3 1 (.slice na (run s).2.2.length nc) (run s).2.2.length ((run s).2.2.map (Value.int .i64)) ∧
      (∀ g, (Value.slice ta (run s).2.1.length tc).ownBlock = some g → (Value.slice na (run s).2.2.length nc).ownBlock ≠ some g) ∧ Below w.heap.size w w'
  else e = .returned (.tuple #[.agg #[.int .i64 0, .int .i64 0, .slice none 0 0, .slice none 0 0], .bool false]) ∧ Below w.heap.size w w'

theorem post_no {s : ByteArray} {w w' : World} (h : ok s = false) (hb : Below w.heap.size w w') : Post s w (.returned (.tuple #[.agg #[.int .i64 0, .int .i64 0, .slice none 0 0, .slice none 0 0], .bool false])) w' := by
  unfold Post
  rw [h]
  exact ⟨rfl, hb⟩
end Go.Proofs.YtipjhlfajefefaaDoor.gm
