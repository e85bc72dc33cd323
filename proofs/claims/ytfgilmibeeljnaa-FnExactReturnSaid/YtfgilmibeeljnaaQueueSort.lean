/- slices.SortFunc of messages by their Seq: the same messages, none behind a greater one. -/
import Derived.Test.YtfgilmibeeljnaaSortLaid
import Derived.Test.YtfgilmibeeljnaaQueueCmp
import Derived.Test.YtfgilmibeeljnaaFlatOwn
namespace Go.Proofs.Ytfgilmibeeljnaa.qs
open Go.Shelf Go.RowKit Go.Lib Go.Sort Go.Proofs.Ytfgilmibeeljnaa.fl Go.Proofs.Ytfgilmibeeljnaa.qk Go.Proofs.Ytfgilmibeeljnaa.qc
set_option linter.unusedVariables false

instance : Inhabited flM.Ms := ⟨⟨0, ⟨#[]⟩, ⟨#[]⟩, ⟨#[]⟩, false⟩⟩
theorem lt_msg (x y : flM.Ms) : ltOf cmpM x y = decide (x.q < y.q) := by
  unfold ltOf cmpM
  by_cases h : x.q < y.q
  · rw [decide_eq_true h, decide_eq_true (cmpI_neg.2 h)]
  · rw [decide_eq_false h, decide_eq_false (fun e => h (cmpI_neg.1 e))]
theorem swo : SWO (ltOf cmpM) where
  irrefl x := by rw [lt_msg]; simp
  trans x y z h1 h2 := by rw [lt_msg] at *; simp at *; omega
  ntrans x y z h1 h2 := by rw [lt_msg] at *; simp at *; omega
set_option maxHeartbeats 1000000 in
theorem closure (x y : flM.Ms) (W : World) : Calls Try.prog 58 #[.agg #[.int .i64 x.q, .string x.x, .string x.k, .string x.b, .bool x.a], .agg #[.int .i64 y.q, .string y.x, .string y.k, .string y.b, .bool y.a]] W fun e w' => e = .returned (.int .i64 (cmpM x y)) ∧ ∃ q os', w' = grow (W.drewN q) os' := by
  obtain ⟨aq, ax, ak, ad, ag⟩ := x
  obtain ⟨bq, bx, bk, bd, bg⟩ := y
  have hc := fun W => cmp_int aq bq W
  show Calls _ _ _ _ fun e w' => e = .returned (.int .i64 (cmpI aq bq)) ∧ _
  generalize cmpI aq bq = r at hc ⊢
  go_enter Try.func58, Try.ntmps58
  go_wp2_with (go_at_call 70; refine (hc _).mono ?_; rintro e w0 ⟨rfl, hw0⟩; rw [hw0]; clear hw0 w0)
  go_ret
  exact ⟨rfl, 0, _, by rw [alloc_eq_grow, alloc_eq_grow, grow_grow]; rfl⟩
theorem lays (blk off size : Nat) (w : World) : CmpLays Try.prog 58 #[] flM.c 5 cmpM blk off size w := fun _ _ _ _ x y => closure x y _
theorem holds {w : World} {B g cap : Nat} {l : List flM.Ms} (ho : w.ownsRow B 38 5 (.slice (some ⟨g, 0, none⟩) l.length cap) l.length (l.flatMap flM.c)) : HoldsK flM.c 5 w g 0 l.toArray := by
  obtain ⟨_, ⟨h1, _⟩ | ⟨g', cap', cur, h1, h2, h3, h4, h5, h6, h7⟩⟩ := ho
  · cases h1
  cases h1
  intro j hj
  rw [size_flatK] at hj
  have hjl : j < l.length * 5 := by simpa using hj
  have hi : j / 5 < l.length := by omega
  have hg : l[j / 5]? = some l[j / 5] := List.getElem?_eq_getElem hi
  have hr : j % 5 < (flM.c l[j / 5]).length := by show j % 5 < 5; omega
  have hv : (flM.c l[j / 5])[j % 5]? = some (flM.c l[j / 5])[j % 5] := List.getElem?_eq_getElem hr
  have hf := flat_at flM.c_len l (j / 5) _ hg (j % 5) _ hv
  rw [show j / 5 * 5 + j % 5 = j by omega, ← h7, List.getElem?_take_of_lt hjl] at hf
  have e1 : l.toArray[j / 5]! = l[j / 5] := by simp [hi]
  refine ⟨?_, by rw [Nat.zero_add]; exact bfree h3 j⟩
  rw [Nat.zero_add, get_flatK _ _ _ _ hj, e1]
  have e2 : (flM.c l[j / 5])[j % 5]! = (flM.c l[j / 5])[j % 5] := getElem!_pos (flM.c l[j / 5]) (j % 5) hr
  rw [e2]
  exact bcell h3 (by simpa using hf)
theorem row_holds {w : World} {g : Nat} {d : Array flM.Ms} (hlt : g < w.heap.size) (h : HoldsK flM.c 5 w g 0 d) : Row flM.c 5 w w.heap.size (some ⟨g, 0, none⟩) d.toList := by
  refine .inr ⟨g, 0, rfl, hlt, fun i e he j v hv => ?_⟩
  have hi : i < d.size := by have := (List.getElem?_eq_some_iff.1 he).1; simpa using this
  have hj : j < 5 := by have := (List.getElem?_eq_some_iff.1 hv).1; exact this
  have ht : i * 5 + j < d.size * 5 := by omega
  have h1 := (h (i * 5 + j) (by rw [size_flatK]; exact ht)).1
  rw [get_flatK _ _ _ _ ht, show (i * 5 + j) / 5 = i by omega, show (i * 5 + j) % 5 = j by omega] at h1
  have e1 : d[i]! = e := by
    rw [getElem!_pos d i hi]
    have h2 := (List.getElem?_eq_some_iff.1 he).2
    simpa using h2
  rw [e1] at h1
  have e2 : (flM.c e)[j]! = v := (getElem!_pos (flM.c e) j (List.getElem?_eq_some_iff.1 hv).1).trans (List.getElem?_eq_some_iff.1 hv).2
  rw [e2] at h1
  rw [show 0 + i * 5 + j = 0 + (i * 5 + j) by omega]
  exact h1
set_option maxHeartbeats 1000000 in
theorem sort_msgs (l : List flM.Ms) (B g cap : Nat) (w : World) (hl : l.length ≤ 1048576) (ho : w.ownsRow B 38 5 (.slice (some ⟨g, 0, none⟩) l.length cap) l.length (l.flatMap flM.c)) :
    Calls Try.prog 62 #[.slice (some ⟨g, 0, none⟩) l.length cap, .func (.func 58) #[] #[]] w fun e w' => e = .returned (.tuple #[]) ∧ ∃ l', l'.Perm l ∧ (∀ (i j : Nat) (a b : flM.Ms), i < j → l'[i]? = some a → l'[j]? = some b → a.q ≤ b.q) ∧ Row flM.c 5 w' w'.heap.size (some ⟨g, 0, none⟩) l' ∧ RowKit.Below 0 w w' ∧ ∀ k, k < w.heap.size → k ≠ g → w'.heap[k]? = w.heap[k]? := by
  have eg : ∀ args w, (callFunc 58 args).run Try.prog w = .ok (.enter 58 args) w := enters_of Try.func58 (by kernel_rfl) rfl
  have hcon := AnyQ.slices_SortFunc shs.sortM 5 Try.isAgg38 Try.sizeOf38 flM.c (fun _ => rfl) (fun x v hv => by simp [flM.c] at hv; rcases hv with rfl | rfl | rfl | rfl | rfl <;> rfl) cmpM swo 58 #[] g 0 cap l.toArray w eg (lays g 0 l.toArray.size w) (holds ho) (ho.lt g rfl).2 (by simp; omega)
  refine Calls.mono hcon ?_
  rintro e w' ⟨he, d', n, os, hp, hs, hw⟩
  refine ⟨he, d'.toList, ?_, ?_, ?_, ?_, ?_⟩
  · have h2 := hp.2.2
    have h1 : d'.size = l.toArray.size := hp.1
    have h3 : d'.toList.length = l.length := by simpa using h1
    have h4 : (List.take l.length d'.toList).Perm l := by simpa using h2
    rw [← h3, List.take_length] at h4
    exact h4
  · intro i j a b hij ha hb
    have h1 : d'.size = l.toArray.size := hp.1
    obtain ⟨li, ea⟩ := List.getElem?_eq_some_iff.1 ha
    obtain ⟨lj, eb⟩ := List.getElem?_eq_some_iff.1 hb
    have li' : i < d'.size := by simpa using li
    have lj' : j < d'.size := by simpa using lj
    have h3 := hs i j (Nat.zero_le _) hij (by omega)
    rw [lt_msg, getElem!_pos d' j lj', getElem!_pos d' i li'] at h3
    have ea' : d'[i] = a := by simpa using ea
    have eb' : d'[j] = b := by simpa using eb
    rw [ea', eb'] at h3
    have := of_decide_eq_false h3
    omega
  · rw [hw]
    exact row_holds (lt_sortWorldK _ _ _ _ _ _ _ _ (ho.lt g rfl).2) (holdsK_sortWorldK _ _ _ _ _ _ _ _ _ (ho.lt g rfl).2 (holds ho) (by simpa using hp.1))
  · rw [hw]
    exact ⟨rfl, rfl, rfl, size_sortWorldK_c _ _ _ _ _ _ _ _, fun k hk => by omega⟩
  · intro k hk hne
    rw [hw]
    unfold sortWorldK grow putRowK putRow mapBlock Sort.ahead
    simp only
    rw [Array.getElem?_append_left (by simpa using hk), Array.getElem?_modify, if_neg (Ne.symm hne)]
end Go.Proofs.Ytfgilmibeeljnaa.qs
