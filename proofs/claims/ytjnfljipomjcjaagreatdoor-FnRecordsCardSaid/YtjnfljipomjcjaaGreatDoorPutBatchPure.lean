/- The bytes of a batch. -/
import Derived.Test.YtjnfljipomjcjaaGreatDoorBatchOk
import Derived.Test.YtjnfljipomjcjaaGreatDoorPutShortWalks
import Derived.Test.YtjnfljipomjcjaaGreatDoorPutLongWalks
namespace Go.Proofs.YtjnfljipomjcjaaGreatDoor.pb
open Go.Proofs.YtjnfljipomjcjaaGreatDoor.bo
set_option linter.unusedVariables false

/-- the bytes of one pair -/
def one (e : flP.Pr) : ByteArray := if e.g = true then ⟨#[1]⟩ ++ ps.out e.k else ⟨#[0]⟩ ++ ps.out e.k ++ pl.out e.v
def all : List flP.Pr → ByteArray
  | [] => ⟨#[]⟩
  | e :: r => one e ++ all r
noncomputable def out (l : List flP.Pr) : ByteArray := if okb l = true then pi.text l.length 1 ++ all l else ⟨#[]⟩
theorem app_nil (a : ByteArray) : a ++ ⟨#[]⟩ = a := by apply ByteArray.ext; simp
theorem nil_app (a : ByteArray) : ⟨#[]⟩ ++ a = a := by apply ByteArray.ext; simp
theorem all_app (l m : List flP.Pr) : all (l ++ m) = all l ++ all m := by
  induction l with
  | nil => exact (nil_app _).symm
  | cons e r ih => simp only [List.cons_append, all, ih, ByteArray.append_assoc]
theorem all_next {l : List flP.Pr} {k : Nat} {e : flP.Pr} (h : l[k]? = some e) : all (l.take (k + 1)) = all (l.take k) ++ one e := by
  obtain ⟨hk, rfl⟩ := List.getElem?_eq_some_iff.1 h
  rw [List.take_succ_eq_append_getElem hk, all_app]
  simp only [all, app_nil]
theorem short_size {k : ByteArray} (h : k.size ≤ 255) : (ps.out k).size ≤ k.size + 8 := by
  have h8 := pi.text_size k.size 1
  unfold ps.out
  rw [if_pos h, ByteArray.size_append]
  omega
theorem long_size {v : ByteArray} (h : v.size ≤ 100000) : (pl.out v).size ≤ v.size + 8 := by
  have h8 := pi.text_size v.size 4
  unfold pl.out
  rw [if_pos h, ByteArray.size_append]
  omega
theorem one_size {e : flP.Pr} (h : okP e) : (one e).size ≤ 4200 := by
  obtain ⟨h1, h2, h3, h4⟩ := h
  have a := short_size (k := e.k) (by omega)
  have b := long_size (v := e.v) (by omega)
  have c1 : (⟨#[1]⟩ : ByteArray).size = 1 := rfl
  have c0 : (⟨#[0]⟩ : ByteArray).size = 1 := rfl
  unfold one
  split
  · rw [ByteArray.size_append]; omega
  · rw [ByteArray.size_append, ByteArray.size_append]; omega
theorem all_size : ∀ {l : List flP.Pr}, (∀ (i : Nat) e, l[i]? = some e → okP e) → (all l).size ≤ 4200 * l.length
  | [], _ => by show 0 ≤ _; omega
  | e :: r, h => by
    have h1 := one_size (h 0 e rfl)
    have h2 := all_size (l := r) fun i x hx => h (i + 1) x hx
    simp only [all, ByteArray.size_append, List.length_cons]
    omega
theorem all_take {l : List flP.Pr} (h : ∀ (i : Nat) e, l[i]? = some e → okP e) (k : Nat) (hk : k ≤ l.length) : (all (l.take k)).size ≤ 4200 * k := by
  have := all_size (l := l.take k) fun i e he => by
    rw [List.getElem?_take] at he
    split at he
    · exact h i e he
    · cases he
  rw [List.length_take] at this
  omega
theorem text1 : pi.text 1 1 = ⟨#[1]⟩ := by decide +kernel
theorem text0 : pi.text 0 1 = ⟨#[0]⟩ := by decide +kernel
theorem out_size (l : List flP.Pr) : (out l).size ≤ 262144 := by
  unfold out
  split
  · rename_i h
    have ho := (okb_iff l).1 h
    have h1 := pi.text_size l.length 1
    have h2 := all_size ho.2
    have h3 := ho.1
    rw [ByteArray.size_append]
    omega
  · show 0 ≤ _; omega
end Go.Proofs.YtjnfljipomjcjaaGreatDoor.pb
