/- What a law's argument of routes weighs: the laws' own szExchange, szBinding and their kin; new memory alone. -/
import Derived.Test.YtpkljkahdclcgaaGreatRouteImpl
namespace Go.Proofs.YtpkljkahdclcgaaGreat.ra
open Go.ChangeShapes Go.WideShapes Go.ChangeAt Go.RowKit Go.Proofs.YtpkljkahdclcgaaGreat.rr
set_option linter.unusedVariables false

def wE (e : Ex) : Nat := e.n.size
/-- the cells behind a slice's address hold the list l; they lie in blocks below B -/
def SE (w : World) (B : Nat) (a : Option Addr) (l : List Ex) : Prop := l = [] ∨ ∃ b off, a = some ⟨b, off, none⟩ ∧ b < B ∧ ∀ (i : Nat) (e : Ex), l[i]? = some e → w.cell? ⟨b, off + i * 2, none⟩ = some (.string e.n) ∧ w.cell? ⟨b, off + i * 2 + 1, none⟩ = some (.int .i64 e.k)
def bulkE : List Ex → Nat
  | [] => 0
  | x :: r => wE x + bulkE r
theorem bulkE_snoc (x : Ex) : ∀ l, bulkE (l ++ [x]) = bulkE l + wE x
  | [] => by simp [bulkE]
  | y :: r => by simp [bulkE, bulkE_snoc x r]; omega
theorem bulkE_take {l : List Ex} {k : Nat} (h : k < l.length) : bulkE (l.take (k + 1)) = bulkE (l.take k) + wE l[k] := by
  rw [List.take_succ_eq_append_getElem h, bulkE_snoc]
theorem bulkE_le {l : List Ex} {x : Ex} (h : x ∈ l) : wE x ≤ bulkE l := by
  induction l with
  | nil => cases h
  | cons y r ih =>
    simp only [bulkE]
    rcases List.mem_cons.1 h with rfl | h
    · omega
    · have := ih h; omega
theorem sz_oneE (e : Ex) (left : Int) (w : World) (h0 : -1 ≤ left) (h1 : left ≤ 1048576) (hx : e.n.size ≤ maxLen) :
    Calls Tryz.prog 148 #[.agg #[.string e.n, .int .i64 e.k], .int .i64 left] w fun r w' => r = .returned (.int .i64 (if left - (wE e : Int) < 0 then -1 else left - (wE e : Int))) ∧ Below w.heap.size w w' := by
  obtain ⟨n, k⟩ := e
  have hx : n.size ≤ 9223372036854775807 := hx
  unfold wE
  by_cases hn : left - (n.size : Int) < 0
  · rw [if_pos hn]
    go_enter Tryz.func148, Tryz.ntmps148
    go_wp2
    go_ret
    exact ⟨rfl, (Below.refl _ _).alloc (Nat.le_refl _) _⟩
  · rw [if_neg hn]
    go_enter Tryz.func148, Tryz.ntmps148
    go_wp2
    go_ret
    exact ⟨rfl, (Below.refl _ _).alloc (Nat.le_refl _) _⟩

set_option maxRecDepth 100000 in
theorem sz_allE (l : List Ex) (a : Option Addr) (cap : Nat) (left : Int) (w : World) (hl : l.length ≤ maxLen) (hx : ∀ e ∈ l, e.n.size ≤ maxLen) (h0 : -1 ≤ left) (h1 : left ≤ 1048576) (hS : SE w w.heap.size a l) :
    Calls Tryz.prog 75 #[.slice a l.length cap, .int .i64 left] w fun e w' => ∃ r : Int, e = .returned (.int .i64 r) ∧ (0 ≤ r → r = left - l.length - bulkE l) ∧ -1 ≤ r ∧ r ≤ 1048576 ∧ Below w.heap.size w w' := by
  have hl' := hl
  unfold maxLen at hl'
  by_cases hneg : left - l.length < 0
  · go_enter Tryz.func75, Tryz.ntmps75
    go_wp2
    go_ret
    exact ⟨-1, rfl, by omega, by omega, by omega, Below.refl _ _⟩
  rcases hS with rfl | ⟨b, off, rfl, hlt, hc⟩
  · go_enter Tryz.func75, Tryz.ntmps75
    go_wp2
    refine wp_loop_rounds 1 ?_
    rw [rounds_succ]
    go_wp2
    go_ret
    exact ⟨_, rfl, fun _ => by simp [bulkE], by simp at hneg; omega, by simp at hneg; omega, Below.refl _ _⟩
  · have HC : Hid (∀ (i : Nat) (e : Ex), l[i]? = some e → w.cell? ⟨b, off + i * 2, none⟩ = some (.string e.n) ∧ w.cell? ⟨b, off + i * 2 + 1, none⟩ = some (.int .i64 e.k)) := hc
    have HX : Hid (∀ e ∈ l, e.n.size ≤ maxLen) := hx
    clear hc hx
    go_enter Tryz.func75, Tryz.ntmps75
    go_wp2
    go_loopw [1, 5] (fun y x wr => ∃ k : Nat, k ≤ l.length ∧ x = .int .i64 k ∧ y = .int .i64 (left - l.length - bulkE (l.take k)) ∧ 0 ≤ left - l.length - bulkE (l.take k) ∧ Below w.heap.size w wr) (fun _ x _ => l.length - (intOf x).toNat)
    case atStart => exact ⟨0, Nat.zero_le _, rfl, by simp [bulkE], by simp [bulkE]; omega, Below.refl _ _⟩
    case round =>
      obtain ⟨k, hk, rfl, rfl, hr0, hbel⟩ := hrel
      have hbs := hbel.size
      by_cases hkl : k < l.length
      · obtain ⟨a0, a1⟩ := HC.out k l[k] (List.getElem?_eq_getElem hkl)
        have c0 := (hbel.cell (p := ⟨b, off + k * 2, none⟩) hlt).trans a0
        have c1 := (hbel.cell (p := ⟨b, off + k * 2 + 1, none⟩) hlt).trans a1
        have hxs := HX.out l[k] (List.getElem_mem hkl)
        have HBK : Hid (bulkE (l.take (k + 1)) = bulkE (l.take k) + wE l[k]) := bulkE_take hkl
        obtain ⟨⟨en, ek⟩, he⟩ : ∃ e, l[k] = e := ⟨_, rfl⟩
        rw [he] at c0 c1 hxs HBK
        obtain ⟨m, hm⟩ : ∃ m, bulkE (l.take k) = m := ⟨_, rfl⟩
        rw [hm] at HBK hr0 ⊢
        have hone := sz_oneE ⟨en, ek⟩ (left - l.length - m) wr (by omega) (by omega) hxs
        obtain ⟨wt, hwt⟩ : ∃ wt, wE ⟨en, ek⟩ = wt := ⟨_, rfl⟩
        rw [hwt] at hone HBK
        clear hm he hwt a0 a1 hxs
        by_cases hlo : left - l.length - m - wt < 0
        · rw [if_pos hlo] at hone
          go_wp2_with (go_at_call 148; refine hone.mono ?_; rintro e w1 ⟨rfl, hb1⟩)
          go_ret
          exact ⟨-1, rfl, by omega, by omega, by omega, hbel.trans (hb1.mono hbs)⟩
        · rw [if_neg hlo] at hone
          go_wp2_with (go_at_call 148; refine hone.mono ?_; rintro e w1 ⟨rfl, hb1⟩)
          go_roundw
          case rel => exact ⟨k + 1, by omega, by go_num, by rw [HBK.out]; congr 1; omega, by rw [HBK.out]; omega, hbel.trans (hb1.mono hbs)⟩
          case measure => simp [intOf]; omega
      · obtain rfl : k = l.length := by omega
        rw [List.take_length] at hr0 ⊢
        go_wp2
        go_ret
        exact ⟨_, rfl, fun _ => rfl, by omega, by omega, hbel⟩

def wB (e : Bi) : Nat := e.x.size + e.k.size + e.q.size
/-- the cells behind a slice's address hold the list l; they lie in blocks below B -/
def SB (w : World) (B : Nat) (a : Option Addr) (l : List Bi) : Prop := l = [] ∨ ∃ b off, a = some ⟨b, off, none⟩ ∧ b < B ∧ ∀ (i : Nat) (e : Bi), l[i]? = some e → w.cell? ⟨b, off + i * 3, none⟩ = some (.string e.x) ∧ w.cell? ⟨b, off + i * 3 + 1, none⟩ = some (.string e.k) ∧ w.cell? ⟨b, off + i * 3 + 2, none⟩ = some (.string e.q)
def bulkB : List Bi → Nat
  | [] => 0
  | x :: r => wB x + bulkB r
theorem bulkB_snoc (x : Bi) : ∀ l, bulkB (l ++ [x]) = bulkB l + wB x
  | [] => by simp [bulkB]
  | y :: r => by simp [bulkB, bulkB_snoc x r]; omega
theorem bulkB_take {l : List Bi} {k : Nat} (h : k < l.length) : bulkB (l.take (k + 1)) = bulkB (l.take k) + wB l[k] := by
  rw [List.take_succ_eq_append_getElem h, bulkB_snoc]
theorem bulkB_le {l : List Bi} {x : Bi} (h : x ∈ l) : wB x ≤ bulkB l := by
  induction l with
  | nil => cases h
  | cons y r ih =>
    simp only [bulkB]
    rcases List.mem_cons.1 h with rfl | h
    · omega
    · have := ih h; omega
theorem sz_oneB (e : Bi) (left : Int) (w : World) (h0 : -1 ≤ left) (h1 : left ≤ 1048576) (hx : e.x.size ≤ maxLen ∧ e.k.size ≤ maxLen ∧ e.q.size ≤ maxLen) :
    Calls Tryz.prog 149 #[.agg #[.string e.x, .string e.k, .string e.q], .int .i64 left] w fun r w' => r = .returned (.int .i64 (if left - (wB e : Int) < 0 then -1 else left - (wB e : Int))) ∧ Below w.heap.size w w' := by
  obtain ⟨x, k, q⟩ := e
  obtain ⟨hx1, hx2, hx3⟩ := hx
  have hx1 : x.size ≤ 9223372036854775807 := hx1
  have hx2 : k.size ≤ 9223372036854775807 := hx2
  have hx3 : q.size ≤ 9223372036854775807 := hx3
  unfold wB
  by_cases h3 : left - ((x.size + k.size + q.size : Nat) : Int) < 0
  · rw [if_pos h3]
    by_cases ha : left - (x.size : Int) < 0
    · go_enter Tryz.func149, Tryz.ntmps149
      go_wp2
      go_ret
      exact ⟨rfl, (Below.refl _ _).alloc (Nat.le_refl _) _⟩
    · by_cases hb : left - (x.size : Int) - (k.size : Int) < 0
      · go_enter Tryz.func149, Tryz.ntmps149
        go_wp2
        go_ret
        exact ⟨rfl, (Below.refl _ _).alloc (Nat.le_refl _) _⟩
      · have hc : left - (x.size : Int) - (k.size : Int) - (q.size : Int) < 0 := by omega
        go_enter Tryz.func149, Tryz.ntmps149
        go_wp2
        go_ret
        exact ⟨rfl, (Below.refl _ _).alloc (Nat.le_refl _) _⟩
  · rw [if_neg h3]
    have ha : ¬ left - (x.size : Int) < 0 := by omega
    have hb : ¬ left - (x.size : Int) - (k.size : Int) < 0 := by omega
    have hc : ¬ left - (x.size : Int) - (k.size : Int) - (q.size : Int) < 0 := by omega
    have he : left - ((x.size + k.size + q.size : Nat) : Int) = left - (x.size : Int) - (k.size : Int) - (q.size : Int) := by omega
    rw [he]
    go_enter Tryz.func149, Tryz.ntmps149
    go_wp2
    go_ret
    exact ⟨rfl, (Below.refl _ _).alloc (Nat.le_refl _) _⟩

set_option maxRecDepth 100000 in
theorem sz_allB (l : List Bi) (a : Option Addr) (cap : Nat) (left : Int) (w : World) (hl : l.length ≤ maxLen) (hx : ∀ e ∈ l, e.x.size ≤ maxLen ∧ e.k.size ≤ maxLen ∧ e.q.size ≤ maxLen) (h0 : -1 ≤ left) (h1 : left ≤ 1048576) (hS : SB w w.heap.size a l) :
    Calls Tryz.prog 76 #[.slice a l.length cap, .int .i64 left] w fun e w' => ∃ r : Int, e = .returned (.int .i64 r) ∧ (0 ≤ r → r = left - l.length - bulkB l) ∧ -1 ≤ r ∧ r ≤ 1048576 ∧ Below w.heap.size w w' := by
  have hl' := hl
  unfold maxLen at hl'
  by_cases hneg : left - l.length < 0
  · go_enter Tryz.func76, Tryz.ntmps76
    go_wp2
    go_ret
    exact ⟨-1, rfl, by omega, by omega, by omega, Below.refl _ _⟩
  rcases hS with rfl | ⟨b, off, rfl, hlt, hc⟩
  · go_enter Tryz.func76, Tryz.ntmps76
    go_wp2
    refine wp_loop_rounds 1 ?_
    rw [rounds_succ]
    go_wp2
    go_ret
    exact ⟨_, rfl, fun _ => by simp [bulkB], by simp at hneg; omega, by simp at hneg; omega, Below.refl _ _⟩
  · have HC : Hid (∀ (i : Nat) (e : Bi), l[i]? = some e → w.cell? ⟨b, off + i * 3, none⟩ = some (.string e.x) ∧ w.cell? ⟨b, off + i * 3 + 1, none⟩ = some (.string e.k) ∧ w.cell? ⟨b, off + i * 3 + 2, none⟩ = some (.string e.q)) := hc
    have HX : Hid (∀ e ∈ l, e.x.size ≤ maxLen ∧ e.k.size ≤ maxLen ∧ e.q.size ≤ maxLen) := hx
    clear hc hx
    go_enter Tryz.func76, Tryz.ntmps76
    go_wp2
    go_loopw [1, 5] (fun y x wr => ∃ k : Nat, k ≤ l.length ∧ x = .int .i64 k ∧ y = .int .i64 (left - l.length - bulkB (l.take k)) ∧ 0 ≤ left - l.length - bulkB (l.take k) ∧ Below w.heap.size w wr) (fun _ x _ => l.length - (intOf x).toNat)
    case atStart => exact ⟨0, Nat.zero_le _, rfl, by simp [bulkB], by simp [bulkB]; omega, Below.refl _ _⟩
    case round =>
      obtain ⟨k, hk, rfl, rfl, hr0, hbel⟩ := hrel
      have hbs := hbel.size
      by_cases hkl : k < l.length
      · obtain ⟨a0, a1, a2⟩ := HC.out k l[k] (List.getElem?_eq_getElem hkl)
        have c0 := (hbel.cell (p := ⟨b, off + k * 3, none⟩) hlt).trans a0
        have c1 := (hbel.cell (p := ⟨b, off + k * 3 + 1, none⟩) hlt).trans a1
        have c2 := (hbel.cell (p := ⟨b, off + k * 3 + 2, none⟩) hlt).trans a2
        have hxs := HX.out l[k] (List.getElem_mem hkl)
        have HBK : Hid (bulkB (l.take (k + 1)) = bulkB (l.take k) + wB l[k]) := bulkB_take hkl
        obtain ⟨⟨ex, ek, eq⟩, he⟩ : ∃ e, l[k] = e := ⟨_, rfl⟩
        rw [he] at c0 c1 c2 hxs HBK
        obtain ⟨m, hm⟩ : ∃ m, bulkB (l.take k) = m := ⟨_, rfl⟩
        rw [hm] at HBK hr0 ⊢
        have hone := sz_oneB ⟨ex, ek, eq⟩ (left - l.length - m) wr (by omega) (by omega) hxs
        obtain ⟨wt, hwt⟩ : ∃ wt, wB ⟨ex, ek, eq⟩ = wt := ⟨_, rfl⟩
        rw [hwt] at hone HBK
        clear hm he hwt a0 a1 a2 hxs
        by_cases hlo : left - l.length - m - wt < 0
        · rw [if_pos hlo] at hone
          go_wp2_with (go_at_call 149; refine hone.mono ?_; rintro e w1 ⟨rfl, hb1⟩)
          go_ret
          exact ⟨-1, rfl, by omega, by omega, by omega, hbel.trans (hb1.mono hbs)⟩
        · rw [if_neg hlo] at hone
          go_wp2_with (go_at_call 149; refine hone.mono ?_; rintro e w1 ⟨rfl, hb1⟩)
          go_roundw
          case rel => exact ⟨k + 1, by omega, by go_num, by rw [HBK.out]; congr 1; omega, by rw [HBK.out]; omega, hbel.trans (hb1.mono hbs)⟩
          case measure => simp [intOf]; omega
      · obtain rfl : k = l.length := by omega
        rw [List.take_length] at hr0 ⊢
        go_wp2
        go_ret
        exact ⟨_, rfl, fun _ => rfl, by omega, by omega, hbel⟩
end Go.Proofs.YtpkljkahdclcgaaGreat.ra
