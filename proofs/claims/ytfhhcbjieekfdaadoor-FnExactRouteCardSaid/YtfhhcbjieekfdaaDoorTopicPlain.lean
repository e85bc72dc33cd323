/- What it is for the words of a pattern to stand for the words of a key: a row of bits for each word of the pattern; its laws. -/
import Derived.Test.YtfhhcbjieekfdaaDoorKeyWalks
import Derived.Test.YtfhhcbjieekfdaaDoorDotWalks
namespace Go.Proofs.YtfhhcbjieekfdaaDoor.tp

def hash : ByteArray := ⟨#[35]⟩
def star : ByteArray := ⟨#[42]⟩

/-- the bit at j behind one word p more -/
def nx (p : ByteArray) (k : List ByteArray) (row : Nat → Bool) : Nat → Bool
  | 0 => decide (p = hash) && row 0
  | j + 1 => if p = hash then row (j + 1) || nx p k row j else row j && (decide (p = star) || decide (p = k.getD j ByteArray.empty))
def row0 (j : Nat) : Bool := decide (j = 0)
def rows (ps k : List ByteArray) (row : Nat → Bool) : Nat → Bool := ps.foldl (fun r p => nx p k r) row
/-- the words ps stand for the words k -/
def fits (ps k : List ByteArray) : Bool := rows ps k row0 k.length
def topic (p k : ByteArray) : Bool := ky.good p && ky.good k && fits (dt.left p 0) (dt.left k 0)

theorem rows_cons (p : ByteArray) (ps k : List ByteArray) (row : Nat → Bool) : rows (p :: ps) k row = rows ps k (nx p k row) := rfl
theorem rows_append (ps qs k : List ByteArray) (row : Nat → Bool) : rows (ps ++ qs) k row = rows qs k (rows ps k row) := List.foldl_append
theorem rows_take (ps k : List ByteArray) (row : Nat → Bool) (i : Nat) (hi : i < ps.length) : rows (ps.take (i + 1)) k row = nx (ps.getD i ByteArray.empty) k (rows (ps.take i) k row) := by
  rw [List.take_add_one, List.getElem?_eq_getElem hi, Option.toList_some, rows_append]
  simp [rows, List.getD, List.getElem?_eq_getElem hi]
theorem nx_zero (p : ByteArray) (k : List ByteArray) (row : Nat → Bool) : nx p k row 0 = (decide (p = hash) && row 0) := rfl
theorem nx_hash (k : List ByteArray) (row : Nat → Bool) (j : Nat) : nx hash k row (j + 1) = (row (j + 1) || nx hash k row j) := by
  show (if hash = hash then _ else _) = _
  rw [if_pos rfl]
theorem nx_other (p : ByteArray) (k : List ByteArray) (row : Nat → Bool) (j : Nat) (h : p ≠ hash) : nx p k row (j + 1) = (row j && (decide (p = star) || decide (p = k.getD j ByteArray.empty))) := by
  show (if p = hash then _ else _) = _
  rw [if_neg h]
theorem nx_star (k : List ByteArray) (row : Nat → Bool) (j : Nat) : nx star k row (j + 1) = row j := by
  rw [nx_other _ _ _ _ (by decide)]; simp
end Go.Proofs.YtfhhcbjieekfdaaDoor.tp
