/- out = append(out, []byte(t)...) in one region that draws its order: the row of bytes that it leaves. -/
import Derived.Test.YtoemkbooomgieaaGreatDoorDw20
import Derived.Test.YtoemkbooomgieaaGreatDoorDw14
import Derived.Test.YtoemkbooomgieaaGreatDoorDoneKit
import Derived.Test.YtoemkbooomgieaaGreatDoorRows
import Derived.WalkKit
import Derived.WalkLawsBesides
import Derived.WalkSpells
import Derived.ProofKit
import Derived.Below
import Derived.OwnWalk
import Derived.Laws.AppendOwn
import Derived.Laws.IdiomCopy
import Derived.Laws.BytesArg
import Derived.Laws.IdiomStrings
import Derived.Lib.ConvBytes

/- The program's writer of a long text answers as the specification's; it lays new memory alone. -/
namespace Go.Proofs.YtoemkbooomgieaaGreatDoor.pl
open Go.ChangeShapes Go.WideShapes Go.ChangeAt Go.RowKit Go.Proofs.YtoemkbooomgieaaGreatDoor.pi

theorem impl_putLong (s : ByteArray) (w : World) (hs : s.size ≤ 1048576) :
    Calls Tryz.prog 58 #[.string s] w fun e w' => e = .returned (.string (out s)) ∧ Below w.heap.size w w' := by
  have h8 := text_size s.size 4
  by_cases h : s.size ≤ 100000
  · simp only [out, h, if_true]
    go_enter Tryz.func58, Tryz.ntmps58
    go_wp2_with (first | (go_at_call 59; refine (impl_put (s.size : Int) 4 w (by omega)).mono ?_; rintro e w1 ⟨rfl, hb1⟩) | (go_at_call 87; go_in))
    go_ret
    exact ⟨rfl, hb1⟩
  · simp only [out, h, if_false]
    go_enter Tryz.func58, Tryz.ntmps58
    go_wp2
    go_ret
    exact ⟨rfl, Below.refl _ _⟩
end Go.Proofs.YtoemkbooomgieaaGreatDoor.pl

/- The bytes of a batch. -/
namespace Go.Proofs.YtoemkbooomgieaaGreatDoor.pb
open Go.Proofs.YtoemkbooomgieaaGreatDoor.bo
set_option linter.unusedVariables false

/-- the bytes of one pair -/
def one (e : flP.Pr) : ByteArray := if e.g = true then ⟨#[1]⟩ ++ ps.out e.k else ⟨#[0]⟩ ++ ps.out e.k ++ pl.out e.v
def all : List flP.Pr → ByteArray
  | [] => ⟨#[]⟩
  | e :: r => one e ++ all r
noncomputable def out (l : List flP.Pr) : ByteArray := if okb l = true then pi.text l.length 1 ++ all l else ⟨#[]⟩
theorem app_nil (a : ByteArray) : a ++ ⟨#[]⟩ = a := by apply ByteArray.ext; simp
theorem nil_app (a : ByteArray) : ⟨#[]⟩ ++ a = a := by apply ByteArray.ext; simp
theorem all_app (l m : List flP.Pr) : all (l ++ m) = all l ++ all m := by
  induction l with
  | nil => exact (nil_app _).symm
  | cons e r ih => simp only [List.cons_append, all, ih, ByteArray.append_assoc]
theorem all_next {l : List flP.Pr} {k : Nat} {e : flP.Pr} (h : l[k]? = some e) : all (l.take (k + 1)) = all (l.take k) ++ one e := by
  obtain ⟨hk, rfl⟩ := List.getElem?_eq_some_iff.1 h
  rw [List.take_succ_eq_append_getElem hk, all_app]
  simp only [all, app_nil]
theorem short_size {k : ByteArray} (h : k.size ≤ 255) : (ps.out k).size ≤ k.size + 8 := by
  have h8 := pi.text_size k.size 1
  unfold ps.out
  rw [if_pos h, ByteArray.size_append]
  omega
theorem long_size {v : ByteArray} (h : v.size ≤ 100000) : (pl.out v).size ≤ v.size + 8 := by
  have h8 := pi.text_size v.size 4
  unfold pl.out
  rw [if_pos h, ByteArray.size_append]
  omega
theorem one_size {e : flP.Pr} (h : okP e) : (one e).size ≤ 4200 := by
  obtain ⟨h1, h2, h3, h4⟩ := h
  have a := short_size (k := e.k) (by omega)
  have b := long_size (v := e.v) (by omega)
  have c1 : (⟨#[1]⟩ : ByteArray).size = 1 := rfl
  have c0 : (⟨#[0]⟩ : ByteArray).size = 1 := rfl
  unfold one
  split
  · rw [ByteArray.size_append]; omega
  · rw [ByteArray.size_append, ByteArray.size_append]; omega
theorem all_size : ∀ {l : List flP.Pr}, (∀ (i : Nat) e, l[i]? = some e → okP e) → (all l).size ≤ 4200 * l.length
  | [], _ => by show 0 ≤ _; omega
  | e :: r, h => by
    have h1 := one_size (h 0 e rfl)
    have h2 := all_size (l := r) fun i x hx => h (i + 1) x hx
    simp only [all, ByteArray.size_append, List.length_cons]
    omega
theorem all_take {l : List flP.Pr} (h : ∀ (i : Nat) e, l[i]? = some e → okP e) (k : Nat) (hk : k ≤ l.length) : (all (l.take k)).size ≤ 4200 * k := by
  have := all_size (l := l.take k) fun i e he => by
    rw [List.getElem?_take] at he
    split at he
    · exact h i e he
    · cases he
  rw [List.length_take] at this
  omega
theorem text1 : pi.text 1 1 = ⟨#[1]⟩ := by decide +kernel
theorem text0 : pi.text 0 1 = ⟨#[0]⟩ := by decide +kernel
theorem out_size (l : List flP.Pr) : (out l).size ≤ 262144 := by
  unfold out
  split
  · rename_i h
    have ho := (okb_iff l).1 h
    have h1 := pi.text_size l.length 1
    have h2 := all_size ho.2
    have h3 := ho.1
    rw [ByteArray.size_append]
    omega
  · show 0 ≤ _; omega
end Go.Proofs.YtoemkbooomgieaaGreatDoor.pb

/- A region that draws its order and gives a variable a new value at its end, which its operations read as it was: the frame behind it is given by a ghost. -/
namespace Go.Proofs.YtoemkbooomgieaaGreatDoor.rv
open Go.Proofs.YtoemkbooomgieaaGreatDoor.dn
set_option linter.unusedVariables false

section
variable {σ : Type} {P : Program} {ops : Array Oper} {d : Nat} {a0 : Act} {rd fin : σ → Act} {C : σ → (Nat → Bool) → World → Prop} {Q : Exit → Act → World → Prop}

/-- what is done has what it waits for done -/
def Closed (ops : Array Oper) (L : Nat → Bool) : Prop := ∀ (j : Nat) (o : Oper), ops[j]? = some o → L j = true → ∀ e ∈ o.after, Region.binds .any e = true → L e.on = true
theorem Closed.more {L : Nat → Bool} (h : Closed ops L) {i : Nat} {o : Oper} (hi : ops[i]? = some o) (hd : ∀ e ∈ o.after, Region.binds .any e = true → L e.on = true) : Closed ops (more L i) := fun j p hj hL e he hb => by
  unfold Go.Proofs.YtoemkbooomgieaaGreatDoor.dn.more at hL ⊢
  by_cases ei : e.on = i
  · rw [if_pos ei]
  · rw [if_neg ei]
    by_cases ej : j = i
    · subst ej; rw [hi] at hj; cases hj; exact hd e he hb
    · rw [if_neg ej] at hL; exact h j p hj hL e he hb
end
end Go.Proofs.YtoemkbooomgieaaGreatDoor.rv

/- A row of bytes of one's own, marked by its conversion or not: made of a text, appended to, read back. -/
namespace Go.Proofs.YtoemkbooomgieaaGreatDoor.br
open Go.ChangeShapes Go.WideShapes Go.ChangeAt Go.RowKit
set_option linter.unusedVariables false

/-- a slice of the bytes s at the head of a block from B on; every cell of its room is there and may be written -/
def BR (w : World) (B : Nat) (v : Value) (s : ByteArray) : Prop :=
  ∃ g cap, v = .slice (some ⟨g, 0, none⟩) s.size cap ∧ B ≤ g ∧ g < w.heap.size ∧ s.size ≤ cap ∧ cap ≤ maxLen ∧
    (∀ j, j < cap → (w.cell? ⟨g, j, none⟩).isSome = true ∧ w.frozen? ⟨g, j, none⟩ = false) ∧
    ∀ (j : Nat) (x : UInt8), s.data.toList[j]? = some x → w.cell? ⟨g, j, none⟩ = some (.int .u8 x.toNat)

theorem BR.below {w w' : World} {B : Nat} {v : Value} {s : ByteArray} (h : BR w B v s) (hb : Below w.heap.size w w') : BR w' B v s := by
  obtain ⟨g, cap, rfl, h1, h2, h3, h4, h5, h6⟩ := h
  refine ⟨g, cap, rfl, h1, Nat.lt_of_lt_of_le h2 hb.size, h3, h4, fun j hj => ⟨?_, ?_⟩, fun j x hx => ?_⟩
  · rw [hb.cell (p := ⟨g, j, none⟩) h2]; exact (h5 j hj).1
  · rw [World.frozen?_of_block (w := w) (a := ⟨g, j, none⟩) (hb.block g h2)]; exact (h5 j hj).2
  · rw [hb.cell (p := ⟨g, j, none⟩) h2]; exact h6 j x hx

theorem BR.mono {w : World} {B B' : Nat} {v : Value} {s : ByteArray} (h : BR w B v s) (hb : B' ≤ B) : BR w B' v s := by
  obtain ⟨g, cap, h0, h1, h2⟩ := h
  exact ⟨g, cap, h0, by omega, h2⟩

end Go.Proofs.YtoemkbooomgieaaGreatDoor.br

/- out = append(out, []byte(t)...) in one region that draws its order: the row of bytes that it leaves. -/
namespace Go.Proofs.YtoemkbooomgieaaGreatDoor.txa
open Go.ChangeShapes Go.WideShapes Go.ChangeAt Go.RowKit Go.Proofs.YtoemkbooomgieaaGreatDoor.br
set_option linter.unusedVariables false

/-- what is drawn: the bytes of the text, the row behind the append, the variable -/
structure G where
  cv : Value
  av : Value
  fv : Value
/-- the row lies from B on in the world W0: its value, its bytes; the text -/
structure Pm where
  B : Nat
  W0 : World
  v0 : Value
  so : ByteArray
  tx : ByteArray
def CV (v : Value) (tx : ByteArray) (W : World) : Prop := ∃ b c, v = .slice (some ⟨b, 0, none⟩) tx.size c ∧ b < W.heap.size ∧ ∀ (j : Nat) (x : UInt8), tx.data.toList[j]? = some x → W.cell? ⟨b, j, none⟩ = some (.int .u8 x.toNat)
theorem CV.below {v : Value} {tx : ByteArray} {W W' : World} (h : CV v tx W) (hb : Below W.heap.size W W') : CV v tx W' := by
  obtain ⟨b, c, h1, h2, h3⟩ := h
  exact ⟨b, c, h1, Nat.lt_of_lt_of_le h2 hb.size, fun j x hx => (hb.cell (p := ⟨b, j, none⟩) h2).trans (h3 j x hx)⟩
structure D (p : Pm) (g : G) (c0 c1 c2 : Bool) (W : World) : Prop where
  bel : Below p.B p.W0 W
  bel2 : c1 = false → Below p.W0.heap.size p.W0 W
  cv : c0 = true → c1 = false → CV g.cv p.tx W
  av : c1 = true → c0 = true ∧ BR W p.B g.av (p.so ++ p.tx)
  fv : c2 = true → c1 = true ∧ g.fv = g.av
section
variable {p : Pm} {j d : Nat} {ws : G → List (Nat × Value)} {act : Act} {Q : Exit → Act → World → Prop} {o : Oper}
theorem D.on {g : G} {c0 c1 c2 : Bool} {W W' : World} (h : D p g c0 c1 c2 W) (hB : p.B ≤ p.W0.heap.size) (hb : Below W.heap.size W W') : D p g c0 c1 c2 W' :=
  ⟨h.bel.trans (hb.mono (Nat.le_trans hB (h.bel.size))), fun e => (h.bel2 e).trans (hb.mono (h.bel2 e).size), fun a b => (h.cv a b).below hb, fun a => ⟨(h.av a).1, (h.av a).2.below hb⟩, h.fv⟩
end
end Go.Proofs.YtoemkbooomgieaaGreatDoor.txa
