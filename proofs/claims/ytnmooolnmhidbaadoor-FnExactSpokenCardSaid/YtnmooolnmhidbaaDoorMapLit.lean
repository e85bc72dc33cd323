/- Maps that are written out as literals: each entry is laid behind the others, and a key is found just where one of the entries bears it. -/
import Derived.Test.YtnmooolnmhidbaaDoorRows
import Derived.WalkKit
import Derived.WalkLawsBesides
import Derived.ProofKit
import Derived.DeepKeys4
import Derived.Maps.OwnSet
namespace Go.Proofs.YtnmooolnmhidbaaDoor.ml
open Go.ChangeShapes Go.WideShapes Go.ChangeAt Go.RowKit Go.Maps
open Go.ChangeMaps (setBlock)

def entAt (n : Nat) : List (Value × Value) → List MapEntry
  | [] => []
  | x :: r => ⟨x.1, x.2, n⟩ :: entAt (n + 1) r
def mapOf (l : List (Value × Value)) : Obj := .map (entAt 0 l).toArray l.length

theorem entAt_snoc (x : Value × Value) : ∀ (l : List (Value × Value)) (n : Nat), entAt n (l ++ [x]) = entAt n l ++ [⟨x.1, x.2, n + l.length⟩]
  | [], n => by simp [entAt]
  | y :: r, n => by simp [entAt, entAt_snoc x r (n + 1)]; omega
theorem mem_entAt {e : MapEntry} : ∀ (l : List (Value × Value)) (n : Nat), e ∈ entAt n l → (e.key, e.val) ∈ l
  | [], n, h => by simp [entAt] at h
  | y :: r, n, h => by
    simp only [entAt, List.mem_cons] at h
    rcases h with rfl | h
    · simp
    · exact List.mem_cons_of_mem _ (mem_entAt r (n + 1) h)

theorem entAt_mem {x : Value × Value} : ∀ (l : List (Value × Value)) (n : Nat), x ∈ l → ∃ e ∈ entAt n l, e.key = x.1
  | [], n, h => by simp at h
  | y :: r, n, h => by
    rcases List.mem_cons.1 h with rfl | h
    · exact ⟨⟨x.1, x.2, n⟩, List.mem_cons_self, rfl⟩
    · obtain ⟨e, he, hk⟩ := entAt_mem r (n + 1) h
      exact ⟨e, by simp [entAt, he], hk⟩

theorem setBlock_alloc (w : World) (o o' : Obj) : setBlock (w.alloc o) w.heap.size o' = w.alloc o' := by
  have h : (w.heap.push o).setIfInBounds w.heap.size o' = w.heap.push o' := by
    apply Array.ext_getElem?
    intro i
    simp only [Array.getElem?_setIfInBounds, Array.getElem?_push, Array.size_push]
    by_cases hi : w.heap.size = i
    · subst hi; simp
    · rw [if_neg hi, if_neg (Ne.symm hi), if_neg (Ne.symm hi)]
  unfold setBlock World.alloc
  simp only [h]

variable {P : Program} {k e t : TypeId}

theorem run_insert (K : Keyed P k) (ht : P.underlying t = some (.map k e)) (w : World) (l : List (Value × Value)) (key val : Value)
    (hes : ∀ x ∈ l, ∃ q, keyOf P k x.1 = some q) (hkey : ∃ q, keyOf P k key = some q) (hne : ∀ x ∈ l, x.1 ≠ key) :
    (Instr.mapUpdate t (.map (some w.heap.size)) key val).run P (w.alloc (mapOf l)) = .ok () (w.alloc (mapOf (l ++ [(key, val)]))) := by
  obtain ⟨kl, hkl⟩ := hkey
  have hb : (w.alloc (mapOf l)).heap[w.heap.size]? = some (.map (entAt 0 l).toArray l.length) := (MapKept.heap_alloc w _).1
  rcases K.find (w.alloc (mapOf l)) hkl (entAt 0 l) (fun x hx => hes _ (mem_entAt l 0 hx)) with ⟨h1, h2⟩ | ⟨j, e0, h1, h2, h3⟩
  · have hs : setBlock (w.alloc (mapOf l)) w.heap.size (.map ((entAt 0 l).toArray.push ⟨key, val, l.length⟩) (l.length + 1)) = w.alloc (mapOf (l ++ [(key, val)])) := by
      rw [setBlock_alloc]
      unfold mapOf
      rw [entAt_snoc]
      simp
    rw [← hs]
    simp [Instr.mapUpdate, run_underlying ht, MapKept.run_getObj_map hb, K.check (w.alloc (mapOf l)) false hkl, h1, MapKept.run_setObj_map _ hb, Result.andThen, setBlock]
  · exact absurd h3 (hne _ (mem_entAt l 0 (List.mem_of_getElem? h2)))

theorem run_lookup (K : Keyed P k) (ht : P.underlying t = some (.map k e)) (w : World) (b : Nat) (l : List (Value × Value)) (key z : Value) (hz : (zeroValue e).run P w = .ok z w) (c : Bool)
    (hb : w.heap[b]? = some (mapOf l)) (hes : ∀ x ∈ l, ∃ q, keyOf P k x.1 = some q) (hkey : ∃ q, keyOf P k key = some q) :
    ((Instr.lookup t (.map (some b)) key c).run P w = .ok (if c then .tuple #[z, .bool false] else z) w ∧ ∀ x ∈ l, x.1 ≠ key) ∨
    ∃ v, (key, v) ∈ l ∧ (Instr.lookup t (.map (some b)) key c).run P w = .ok (if c then .tuple #[v, .bool true] else v) w := by
  obtain ⟨kl, hkl⟩ := hkey
  have hb' : w.heap[b]? = some (.map (entAt 0 l).toArray l.length) := hb
  rcases K.find w hkl (entAt 0 l) (fun x hx => hes _ (mem_entAt l 0 hx)) with ⟨h1, h2⟩ | ⟨j, e0, h1, h2, h3⟩
  · refine Or.inl ⟨?_, fun x hx hk => ?_⟩
    · simp [Instr.lookup, run_underlying ht, MapKept.run_getObj_map hb', K.check w _ hkl, h1, hz, Result.andThen]
    · obtain ⟨e0, he0, hk0⟩ := entAt_mem l 0 hx
      exact h2 e0 he0 (hk0.trans hk)
  · have hm := mem_entAt l 0 (List.mem_of_getElem? h2)
    rw [h3] at hm
    exact Or.inr ⟨e0.val, hm, by simp [Instr.lookup, run_underlying ht, MapKept.run_getObj_map hb', K.check w _ hkl, h1, Result.andThen]⟩

theorem run_made {t : TypeId} (w : World) (hm : (Instr.makeMap t none).run P w = .ok (.map (some w.heap.size)) (w.alloc (.map #[] 0))) : (Instr.makeMap t none).run P w = .ok (.map (some w.heap.size)) (w.alloc (mapOf [])) := hm

theorem wpList_insert {ops : Array Oper} {rest : List Oper} {o : Oper} {a : Act} {Q : Exit → Act → World → Prop} (w : World)
    (hg : o.guard = none) (m x v : Operand) (t : TypeId) (hop : o.op = Op.insert t m x v) (w' : World) (hrun : (Instr.mapUpdate t (a.eval m) (a.eval x) (a.eval v)).run P w = .ok () w')
    (hK : wpList P ops Q rest (a.put o.dst undef) w') : wpList P ops Q (o :: rest) a w := by
  refine wpList_plain hg fun K' hK' => ?_
  unfold Oper.wp
  simp [execOp, hop, hrun, Result.andThen]
  exact hK' _ _ hK
end Go.Proofs.YtnmooolnmhidbaaDoor.ml
