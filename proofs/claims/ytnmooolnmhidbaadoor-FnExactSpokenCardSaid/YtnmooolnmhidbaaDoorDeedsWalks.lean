/- The program's table of what a form's letters do: made anew, and asked by a letter. -/
import Derived.Test.YtnmooolnmhidbaaDoorMethodPlain
namespace Go.Proofs.YtnmooolnmhidbaaDoor.dd
open Go.ChangeShapes Go.WideShapes Go.ChangeAt Go.RowKit Go.Maps Go.Proofs.YtnmooolnmhidbaaDoor.ml

def deedV (z : Int) (wr rd : FuncId) : Value := .agg #[.int .i64 z, .func (.func wr) #[] #[], .func (.func rd) #[] #[]]
def textV : Value := deedV 0 63 64
def numV (z : Int) : Value := deedV z 65 66
def deeds : List (Value × Value) := [(.int .u8 115, textV), (.int .u8 49, numV 1), (.int .u8 50, numV 2), (.int .u8 52, numV 4), (.int .u8 56, numV 8)]

theorem law : Keyed Tryd.prog 5 := int_keyed Tryd.underlying5
theorem keyI (n : Int) (h : 0 ≤ n ∧ n ≤ 255) : ∃ q, keyOf Tryd.prog 5 (.int .u8 n) = some q := ⟨_, keyOf_int_mk Tryd.underlying5 (WalkArith.wf_u8 h)⟩
theorem key (n : Nat) (h : n ≤ 255) : ∃ q, keyOf Tryd.prog 5 (.int .u8 n) = some q := keyI n (by omega)
theorem keys_ok : ∀ x ∈ deeds, ∃ q, keyOf Tryd.prog 5 x.1 = some q := by
  intro x hx
  simp only [deeds, List.mem_cons, List.not_mem_nil, or_false] at hx
  rcases hx with rfl | rfl | rfl | rfl | rfl
  · exact key 115 (by omega)
  · exact key 49 (by omega)
  · exact key 50 (by omega)
  · exact key 52 (by omega)
  · exact key 56 (by omega)

def fresh (l : List (Value × Value)) (n : Int) : Bool := l.all fun x => match x.1 with
  | .int .u8 m => decide (0 ≤ m) && decide (m ≤ 255) && !(m == n)
  | _ => false
theorem ins (w : World) (l : List (Value × Value)) (n : Int) (v : Value) (hn : (decide (0 ≤ n) && decide (n ≤ 255)) = true) (h : fresh l n = true) :
    (Instr.mapUpdate 68 (.map (some w.heap.size)) (.int .u8 n) v).run Tryd.prog (w.alloc (mapOf l)) = .ok () (w.alloc (mapOf (l ++ [(.int .u8 n, v)]))) := by
  have hs : ∀ x ∈ l, ∃ m : Int, x.1 = .int .u8 m ∧ 0 ≤ m ∧ m ≤ 255 ∧ m ≠ n := fun x hx => by
    have := List.all_eq_true.1 h x hx
    split at this
    · rename_i m hm
      simp only [Bool.and_eq_true, decide_eq_true_eq, Bool.not_eq_true', beq_eq_false_iff_ne] at this
      exact ⟨m, hm, this.1.1, this.1.2, this.2⟩
    · cases this
  simp only [Bool.and_eq_true, decide_eq_true_eq] at hn
  exact run_insert law Tryd.underlying68 w l (.int .u8 n) v (fun x hx => by obtain ⟨m, e, h1, h2, _⟩ := hs x hx; rw [e]; exact keyI m ⟨h1, h2⟩) (keyI n hn)
    (fun x hx e => by obtain ⟨m, e', _, _, hne⟩ := hs x hx; rw [e'] at e; simp at e; exact hne e)

set_option maxRecDepth 100000 in
theorem impl_deeds (w : World) : Calls Tryd.prog 42 #[] w fun e w' => e = .returned (.map (some w.heap.size)) ∧ w' = w.alloc (mapOf deeds) := by
  have hmm : ∀ W : World, (Instr.makeMap 68 none).run Tryd.prog W = .ok (.map (some W.heap.size)) (W.alloc (mapOf [])) := fun W => @run_makeMap Tryd.prog 68 W
  go_enter Tryd.func42, Tryd.ntmps42
  go_wp2_with (refine wpList_insert _ rfl _ _ _ _ rfl _ (ins w _ _ _ rfl rfl) ?_)
  go_ret
  exact ⟨rfl, rfl⟩

theorem zeroDeed (W : World) : ∃ z, (zeroValue 73).run Tryd.prog W = .ok z W := ⟨.agg #[.int .i64 0, .nilFunc, .nilFunc], by kernel_rfl⟩

theorem look {W : World} {b : Nat} (hb : W.heap[b]? = some (mapOf deeds)) (n : Nat) (v : Value) (hn : n ≤ 255) (hm : ∀ u, ((.int .u8 n : Value), u) ∈ deeds ↔ u = v) :
    (Instr.lookup 68 (.map (some b)) (.int .u8 n) false).run Tryd.prog W = .ok v W := by
  obtain ⟨z, hz⟩ := zeroDeed W
  rcases run_lookup law Tryd.underlying68 W b deeds (.int .u8 n) z hz false hb keys_ok (key n hn) with ⟨_, hno⟩ | ⟨u, hu, hr⟩
  · exact absurd rfl (hno _ ((hm v).2 rfl))
  · rw [hr, (hm u).1 hu]
    rfl
theorem look_text {W : World} {b : Nat} (hb : W.heap[b]? = some (mapOf deeds)) : (Instr.lookup 68 (.map (some b)) (.int .u8 115) false).run Tryd.prog W = .ok textV W :=
  look hb 115 textV (by omega) (fun u => by simp [deeds])
theorem look_num {W : World} {b : Nat} (hb : W.heap[b]? = some (mapOf deeds)) (c : UInt8) (hc : mp.letter c = true) (h5 : c ≠ 115) : (Instr.lookup 68 (.map (some b)) (.int .u8 c.toNat) false).run Tryd.prog W = .ok (numV ((c.toNat : Int) - 48)) W := by
  unfold mp.letter at hc
  simp only [Bool.or_eq_true, beq_iff_eq] at hc
  rcases hc with (((h | h) | h) | h) | h
  · exact absurd h h5
  · subst h; exact look hb 49 (numV 1) (by omega) (fun u => by simp [deeds])
  · subst h; exact look hb 50 (numV 2) (by omega) (fun u => by simp [deeds])
  · subst h; exact look hb 52 (numV 4) (by omega) (fun u => by simp [deeds])
  · subst h; exact look hb 56 (numV 8) (by omega) (fun u => by simp [deeds])
end Go.Proofs.YtnmooolnmhidbaaDoor.dd
