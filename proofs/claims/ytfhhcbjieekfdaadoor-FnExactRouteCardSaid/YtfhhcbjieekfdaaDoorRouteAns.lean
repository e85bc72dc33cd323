/- Route: what it answers. -/
import Derived.Test.YtfhhcbjieekfdaaDoorRoutePure
import Derived.Test.YtfhhcbjieekfdaaDoorTopicSpec
namespace Go.Proofs.YtfhhcbjieekfdaaDoor.rta
open Go.ChangeShapes Go.WideShapes Go.ChangeAt Go.RowKit Go.Proofs.YtfhhcbjieekfdaaDoor.rr Go.Proofs.YtfhhcbjieekfdaaDoor.rc Go.Proofs.YtfhhcbjieekfdaaDoor.ro Go.Proofs.YtfhhcbjieekfdaaDoor.rtp
set_option linter.unusedVariables false

/-- whether a message goes by a binding of an exchange of that kind -/
def goes (kind : Int) (b : Bi) (key : ByteArray) : Bool := decide (kind = 1) || ((decide (kind = 0) && decide (b.k = key)) || (decide (kind = 2) && tp.topic b.k key))
def hit (kind : Int) (x key : ByteArray) (b : Bi) : Bool := decide (b.x = x) && goes kind b key
def qs (kind : Int) (x key : ByteArray) (bs : List Bi) : List ByteArray := (bs.filter (hit kind x key)).map (·.q)
noncomputable def okr (es : List Ex) (bs : List Bi) : Bool := @decide (OkR es bs) (Classical.propDecidable _)
theorem okr_iff {es : List Ex} {bs : List Bi} : okr es bs = true ↔ OkR es bs := by unfold okr; exact @decide_eq_true_iff _ (Classical.propDecidable _)
theorem okr_of {es : List Ex} {bs : List Bi} {b : Bool} (h : b = true ↔ OkR es bs) : okr es bs = b := by
  cases b with
  | true => exact okr_iff.2 (h.1 rfl)
  | false =>
    cases hh : okr es bs with
    | false => rfl
    | true => have := h.2 (okr_iff.1 hh); cases this
noncomputable def ansL (es : List Ex) (bs : List Bi) (x key : ByteArray) : List ByteArray :=
  if (okr es bs && ky.good key) = true then (if x = ⟨#[]⟩ then [key] else if kindOf es x < 0 then [] else puts (qs (kindOf es x) x key bs)) else []
noncomputable def ansB (es : List Ex) (bs : List Bi) (x key : ByteArray) : Bool := (okr es bs && ky.good key) && (decide (x = ⟨#[]⟩) || !decide (kindOf es x < 0))
section
variable {es : List Ex} {bs : List Bi} {x key : ByteArray}
theorem ans_bad (h : (okr es bs && ky.good key) = false) : ansL es bs x key = [] ∧ ansB es bs x key = false := by
  unfold ansL ansB
  rw [h]
  exact ⟨rfl, rfl⟩
theorem ans_self (h : (okr es bs && ky.good key) = true) (hx : x = ⟨#[]⟩) : ansL es bs x key = [key] ∧ ansB es bs x key = true := by
  unfold ansL ansB
  rw [h, if_pos rfl, if_pos hx, decide_eq_true hx]
  exact ⟨rfl, rfl⟩
theorem ans_none (h : (okr es bs && ky.good key) = true) (hx : x ≠ ⟨#[]⟩) (hk : kindOf es x < 0) : ansL es bs x key = [] ∧ ansB es bs x key = false := by
  unfold ansL ansB
  rw [h, if_pos rfl, if_neg hx, if_pos hk, decide_eq_false hx, decide_eq_true hk]
  exact ⟨rfl, rfl⟩
theorem ans_some (h : (okr es bs && ky.good key) = true) (hx : x ≠ ⟨#[]⟩) (hk : ¬ kindOf es x < 0) : ansL es bs x key = puts (qs (kindOf es x) x key bs) ∧ ansB es bs x key = true := by
  unfold ansL ansB
  rw [h, if_pos rfl, if_neg hx, if_neg hk, decide_eq_false hx, decide_eq_false hk]
  exact ⟨rfl, rfl⟩
end
theorem qs_no {kind : Int} {x key : ByteArray} {bs : List Bi} {k : Nat} {b : Bi} (h : bs[k]? = some b) (hk : hit kind x key b = false) : qs kind x key (bs.take (k + 1)) = qs kind x key (bs.take k) := by
  unfold qs
  rw [List.take_add_one, List.filter_append, h]
  simp [hk]
theorem qs_yes {kind : Int} {x key : ByteArray} {bs : List Bi} {k : Nat} {b : Bi} (h : bs[k]? = some b) (hk : hit kind x key b = true) : qs kind x key (bs.take (k + 1)) = qs kind x key (bs.take k) ++ [b.q] := by
  unfold qs
  rw [List.take_add_one, List.filter_append, h]
  simp [hk]
theorem qs_len (kind : Int) (x key : ByteArray) (bs : List Bi) : (qs kind x key bs).length ≤ bs.length := by
  unfold qs
  rw [List.length_map]
  exact List.length_filter_le _ _
end Go.Proofs.YtfhhcbjieekfdaaDoor.rta
