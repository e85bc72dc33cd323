/- The program's QueueOk. -/
import Derived.Shelf.SlGeneric
import Derived.Shelf.SlSortCmp.WholeK
import Derived.Shelf.SlSortCmp.NoneTotal
import Derived.Test.YtnlcmheahihlpaaRows
import Derived.Test.YtnlcmheahihlpaaQw05
import Derived.Test.YtnlcmheahihlpaaFlatOwn
import Derived.Test.YtnlcmheahihlpaaQueueOkSpec
import Derived.Test.YtnlcmheahihlpaaCopyRows

/- slices.SortFunc at messages, laid by the kit's own program (shelf_lay_g, in plain words) at the seat Ytnlcmheahihlpaa: its numbers are that seat's; lay it anew for another (laysort.py). -/
namespace Go.Proofs.Ytnlcmheahihlpaa.shs
open Go.Shelf
def sortM_ren : Go.Shelf.Ren := ⟨fun | 6 => 38 | 15 => 63 | 14 => 62 | 28 => 82 | 29 => 83 | 20 => 74 | 21 => 75 | 22 => 76 | 23 => 77 | 24 => 78 | 25 => 79 | 26 => 80 | 27 => 81 | 46 => 87 | 47 => 88 | 48 => 89 | 49 => 90 | 50 => 91 | 57 => 93 | n => n, fun | 22 => 24 | 24 => 41 | 25 => 60 | 3 => 3 | 39 => 96 | 0 => 0 | 53 => 114 | 55 => 116 | 4 => 4 | 46 => 108 | 45 => 107 | 50 => 86 | 5 => 5 | 9 => 9 | 66 => 125 | 70 => 129 | 76 => 131 | 77 => 44 | n => n, fun | n => n⟩
theorem sortM : Go.Proofs.SlLaysF0.n6 Try.prog sortM_ren := {
  mixed := by kernel_rfl
  f6 := ⟨Try.f38.name, by decide, Try.func38.trans (congrArg some (by kernel_rfl))⟩
  f14 := ⟨Try.f62.name, by decide, Try.func62.trans (congrArg some (by kernel_rfl))⟩
  f15 := Try.func63.trans (congrArg some (by kernel_rfl))
  f20 := ⟨Try.f74.name, by decide, Try.func74.trans (congrArg some (by kernel_rfl))⟩
  f21 := ⟨Try.f75.name, by decide, Try.func75.trans (congrArg some (by kernel_rfl))⟩
  f22 := ⟨Try.f76.name, by decide, Try.func76.trans (congrArg some (by kernel_rfl))⟩
  f23 := ⟨Try.f77.name, by decide, Try.func77.trans (congrArg some (by kernel_rfl))⟩
  f24 := ⟨Try.f78.name, by decide, Try.func78.trans (congrArg some (by kernel_rfl))⟩
  f25 := ⟨Try.f79.name, by decide, Try.func79.trans (congrArg some (by kernel_rfl))⟩
  f26 := ⟨Try.f80.name, by decide, Try.func80.trans (congrArg some (by kernel_rfl))⟩
  f27 := ⟨Try.f81.name, by decide, Try.func81.trans (congrArg some (by kernel_rfl))⟩
  f28 := Try.func82.trans (congrArg some (by kernel_rfl))
  f29 := Try.func83.trans (congrArg some (by kernel_rfl))
  f46 := ⟨Try.f87.name, by decide, Try.func87.trans (congrArg some (by kernel_rfl))⟩
  f47 := Try.func88.trans (congrArg some (by kernel_rfl))
  f48 := Try.func89.trans (congrArg some (by kernel_rfl))
  f49 := ⟨Try.f90.name, by decide, Try.func90.trans (congrArg some (by kernel_rfl))⟩
  f50 := ⟨Try.f91.name, by decide, Try.func91.trans (congrArg some (by kernel_rfl))⟩
  f57 := ⟨Try.f93.name, by decide, Try.func93.trans (congrArg some (by kernel_rfl))⟩
  t0 := Try.underlying0
  a0 := Try.isAgg0
  z0 := Try.sizeOf0
  v0 := Try.zeroValue0
  t3 := Try.underlying3
  a3 := Try.isAgg3
  z3 := Try.sizeOf3
  v3 := Try.zeroValue3
  t4 := Try.underlying4
  a4 := Try.isAgg4
  z4 := Try.sizeOf4
  v4 := Try.zeroValue4
  t5 := Try.underlying5
  a5 := Try.isAgg5
  z5 := Try.sizeOf5
  v5 := Try.zeroValue5
  t9 := Try.underlying9
  a9 := Try.isAgg9
  z9 := Try.sizeOf9
  v9 := Try.zeroValue9
  t22 := Try.underlying24
  a22 := Try.isAgg24
  z22 := Try.sizeOf24
  v22 := Try.zeroValue24
  t25 := Try.underlying60
  a25 := Try.isAgg60
  z25 := Try.sizeOf60
  v25 := Try.zeroValue60
  t39 := Try.underlying96
  a39 := Try.isAgg96
  z39 := Try.sizeOf96
  v39 := Try.zeroValue96
  t45 := Try.underlying107
  a45 := Try.isAgg107
  z45 := Try.sizeOf107
  v45 := Try.zeroValue107
  t46 := Try.underlying108
  a46 := Try.isAgg108
  z46 := Try.sizeOf108
  v46 := Try.zeroValue108
  t50 := Try.underlying86
  a50 := Try.isAgg86
  z50 := Try.sizeOf86
  v50 := Try.zeroValue86
  t53 := Try.underlying114
  a53 := Try.isAgg114
  z53 := Try.sizeOf114
  v53 := Try.zeroValue114
  t55 := Try.underlying116
  a55 := Try.isAgg116
  z55 := Try.sizeOf116
  v55 := Try.zeroValue116
  t66 := Try.underlying125
  a66 := Try.isAgg125
  z66 := Try.sizeOf125
  v66 := Try.zeroValue125
  t70 := Try.underlying129
  a70 := Try.isAgg129
  z70 := Try.sizeOf129
  v70 := Try.zeroValue129
  t76 := Try.underlying131
  a76 := Try.isAgg131
  z76 := Try.sizeOf131
  v76 := Try.zeroValue131
  t77 := Try.underlying44
  a77 := Try.isAgg44
  z77 := Try.sizeOf44
  v77 := Try.zeroValue44 }
end Go.Proofs.Ytnlcmheahihlpaa.shs

/- slices.SortFunc of messages by their Seq: the same messages, none behind a greater one. -/
namespace Go.Proofs.Ytnlcmheahihlpaa.qs
open Go.Shelf Go.RowKit Go.Lib Go.Sort Go.Proofs.Ytnlcmheahihlpaa.fl Go.Proofs.Ytnlcmheahihlpaa.qk Go.Proofs.Ytnlcmheahihlpaa.qc
set_option linter.unusedVariables false

instance : Inhabited flM.Ms := ⟨⟨0, ⟨#[]⟩, ⟨#[]⟩, ⟨#[]⟩, false⟩⟩
theorem lt_msg (x y : flM.Ms) : ltOf cmpM x y = decide (x.q < y.q) := by
  unfold ltOf cmpM
  by_cases h : x.q < y.q
  · rw [decide_eq_true h, decide_eq_true (cmpI_neg.2 h)]
  · rw [decide_eq_false h, decide_eq_false (fun e => h (cmpI_neg.1 e))]
theorem swo : SWO (ltOf cmpM) where
  irrefl x := by rw [lt_msg]; simp
  trans x y z h1 h2 := by rw [lt_msg] at *; simp at *; omega
  ntrans x y z h1 h2 := by rw [lt_msg] at *; simp at *; omega
set_option maxHeartbeats 1000000 in
theorem closure (x y : flM.Ms) (W : World) : Calls Try.prog 32 #[.agg #[.int .i64 x.q, .string x.x, .string x.k, .string x.b, .bool x.a], .agg #[.int .i64 y.q, .string y.x, .string y.k, .string y.b, .bool y.a]] W fun e w' => e = .returned (.int .i64 (cmpM x y)) ∧ ∃ q os', w' = grow (W.drewN q) os' := by
  obtain ⟨aq, ax, ak, ad, ag⟩ := x
  obtain ⟨bq, bx, bk, bd, bg⟩ := y
  have hc := fun W => cmp_int aq bq W
  show Calls _ _ _ _ fun e w' => e = .returned (.int .i64 (cmpI aq bq)) ∧ _
  generalize cmpI aq bq = r at hc ⊢
  go_enter Try.func32, Try.ntmps32
  go_wp2_with (go_at_call 59; refine (hc _).mono ?_; rintro e w0 ⟨rfl, hw0⟩; rw [hw0]; clear hw0 w0)
  go_ret
  exact ⟨rfl, 0, _, by rw [alloc_eq_grow, alloc_eq_grow, grow_grow]; rfl⟩
theorem lays (blk off size : Nat) (w : World) : CmpLays Try.prog 32 #[] flM.c 5 cmpM blk off size w := fun _ _ _ _ x y => closure x y _
theorem holds {w : World} {B g cap : Nat} {l : List flM.Ms} (ho : w.ownsRow B 41 5 (.slice (some ⟨g, 0, none⟩) l.length cap) l.length (l.flatMap flM.c)) : HoldsK flM.c 5 w g 0 l.toArray := by
  obtain ⟨_, ⟨h1, _⟩ | ⟨g', cap', cur, h1, h2, h3, h4, h5, h6, h7⟩⟩ := ho
  · cases h1
  cases h1
  intro j hj
  rw [size_flatK] at hj
  have hjl : j < l.length * 5 := by simpa using hj
  have hi : j / 5 < l.length := by omega
  have hg : l[j / 5]? = some l[j / 5] := List.getElem?_eq_getElem hi
  have hr : j % 5 < (flM.c l[j / 5]).length := by show j % 5 < 5; omega
  have hv : (flM.c l[j / 5])[j % 5]? = some (flM.c l[j / 5])[j % 5] := List.getElem?_eq_getElem hr
  have hf := flat_at flM.c_len l (j / 5) _ hg (j % 5) _ hv
  rw [show j / 5 * 5 + j % 5 = j by omega, ← h7, List.getElem?_take_of_lt hjl] at hf
  have e1 : l.toArray[j / 5]! = l[j / 5] := by simp [hi]
  refine ⟨?_, by rw [Nat.zero_add]; exact bfree h3 j⟩
  rw [Nat.zero_add, get_flatK _ _ _ _ hj, e1]
  have e2 : (flM.c l[j / 5])[j % 5]! = (flM.c l[j / 5])[j % 5] := getElem!_pos (flM.c l[j / 5]) (j % 5) hr
  rw [e2]
  exact bcell h3 (by simpa using hf)
theorem row_holds {w : World} {g : Nat} {d : Array flM.Ms} (hlt : g < w.heap.size) (h : HoldsK flM.c 5 w g 0 d) : Row flM.c 5 w w.heap.size (some ⟨g, 0, none⟩) d.toList := by
  refine .inr ⟨g, 0, rfl, hlt, fun i e he j v hv => ?_⟩
  have hi : i < d.size := by have := (List.getElem?_eq_some_iff.1 he).1; simpa using this
  have hj : j < 5 := by have := (List.getElem?_eq_some_iff.1 hv).1; exact this
  have ht : i * 5 + j < d.size * 5 := by omega
  have h1 := (h (i * 5 + j) (by rw [size_flatK]; exact ht)).1
  rw [get_flatK _ _ _ _ ht, show (i * 5 + j) / 5 = i by omega, show (i * 5 + j) % 5 = j by omega] at h1
  have e1 : d[i]! = e := by
    rw [getElem!_pos d i hi]
    have h2 := (List.getElem?_eq_some_iff.1 he).2
    simpa using h2
  rw [e1] at h1
  have e2 : (flM.c e)[j]! = v := (getElem!_pos (flM.c e) j (List.getElem?_eq_some_iff.1 hv).1).trans (List.getElem?_eq_some_iff.1 hv).2
  rw [e2] at h1
  rw [show 0 + i * 5 + j = 0 + (i * 5 + j) by omega]
  exact h1
set_option maxHeartbeats 1000000 in
theorem sort_msgs (l : List flM.Ms) (B g cap : Nat) (w : World) (hl : l.length ≤ 1048576) (ho : w.ownsRow B 41 5 (.slice (some ⟨g, 0, none⟩) l.length cap) l.length (l.flatMap flM.c)) :
    Calls Try.prog 38 #[.slice (some ⟨g, 0, none⟩) l.length cap, .func (.func 32) #[] #[]] w fun e w' => e = .returned (.tuple #[]) ∧ ∃ l', l'.Perm l ∧ (∀ (i j : Nat) (a b : flM.Ms), i < j → l'[i]? = some a → l'[j]? = some b → a.q ≤ b.q) ∧ Row flM.c 5 w' w'.heap.size (some ⟨g, 0, none⟩) l' ∧ RowKit.Below 0 w w' ∧ ∀ k, k < w.heap.size → k ≠ g → w'.heap[k]? = w.heap[k]? := by
  have eg : ∀ args w, (callFunc 32 args).run Try.prog w = .ok (.enter 32 args) w := enters_of Try.func32 (by kernel_rfl) rfl
  have hcon := AnyQ.slices_SortFunc shs.sortM 5 Try.isAgg41 Try.sizeOf41 flM.c (fun _ => rfl) (fun x v hv => by simp [flM.c] at hv; rcases hv with rfl | rfl | rfl | rfl | rfl <;> rfl) cmpM swo 32 #[] g 0 cap l.toArray w eg (lays g 0 l.toArray.size w) (holds ho) (ho.lt g rfl).2 (by simp; omega)
  refine Calls.mono hcon ?_
  rintro e w' ⟨he, d', n, os, hp, hs, hw⟩
  refine ⟨he, d'.toList, ?_, ?_, ?_, ?_, ?_⟩
  · have h2 := hp.2.2
    have h1 : d'.size = l.toArray.size := hp.1
    have h3 : d'.toList.length = l.length := by simpa using h1
    have h4 : (List.take l.length d'.toList).Perm l := by simpa using h2
    rw [← h3, List.take_length] at h4
    exact h4
  · intro i j a b hij ha hb
    have h1 : d'.size = l.toArray.size := hp.1
    obtain ⟨li, ea⟩ := List.getElem?_eq_some_iff.1 ha
    obtain ⟨lj, eb⟩ := List.getElem?_eq_some_iff.1 hb
    have li' : i < d'.size := by simpa using li
    have lj' : j < d'.size := by simpa using lj
    have h3 := hs i j (Nat.zero_le _) hij (by omega)
    rw [lt_msg, getElem!_pos d' j lj', getElem!_pos d' i li'] at h3
    have ea' : d'[i] = a := by simpa using ea
    have eb' : d'[j] = b := by simpa using eb
    rw [ea', eb'] at h3
    have := of_decide_eq_false h3
    omega
  · rw [hw]
    exact row_holds (lt_sortWorldK _ _ _ _ _ _ _ _ (ho.lt g rfl).2) (holdsK_sortWorldK _ _ _ _ _ _ _ _ _ (ho.lt g rfl).2 (holds ho) (by simpa using hp.1))
  · rw [hw]
    exact ⟨rfl, rfl, rfl, size_sortWorldK_c _ _ _ _ _ _ _ _, fun k hk => by omega⟩
  · intro k hk hne
    rw [hw]
    unfold sortWorldK grow putRowK putRow mapBlock Sort.ahead
    simp only
    rw [Array.getElem?_append_left (by simpa using hk), Array.getElem?_modify, if_neg (Ne.symm hne)]
end Go.Proofs.Ytnlcmheahihlpaa.qs

/- The program's QueueOk. -/
namespace Go.Proofs.Ytnlcmheahihlpaa.qki
open Go.ChangeShapes Go.WideShapes Go.ChangeAt Go.RowKit Go.Proofs.Ytnlcmheahihlpaa.fl Go.Proofs.Ytnlcmheahihlpaa.qk Go.Proofs.Ytnlcmheahihlpaa.qc Go.Proofs.Ytnlcmheahihlpaa.qa Go.Proofs.Ytnlcmheahihlpaa.qks
set_option linter.unusedVariables false

theorem up_strict {l : List flM.Ms} (h : UpM l l.length) : ∀ (d i : Nat) (a b : flM.Ms), l[i]? = some a → l[i + d + 1]? = some b → a.q < b.q
  | 0, i, a, b, ha, hb => cmpI_neg.1 (h i a b (List.getElem?_eq_some_iff.1 hb).1 ha hb)
  | d + 1, i, a, b, ha, hb => by
    have hlt := (List.getElem?_eq_some_iff.1 hb).1
    have hm : l[i + d + 1]? = some l[i + d + 1] := List.getElem?_eq_getElem (by omega)
    have h1 := up_strict h d i a _ ha hm
    have h2 : l[i + d + 1].q < b.q := cmpI_neg.1 (h (i + d + 1) _ b (by omega) hm (by rw [show i + d + 1 + 1 = i + (d + 1) + 1 by omega]; exact hb))
    omega
theorem up_nodup {l : List flM.Ms} (h : UpM l l.length) : (l.map (·.q)).Nodup := by
  refine List.pairwise_iff_getElem.2 fun i j hi hj hij => ?_
  simp at hi hj
  simp only [List.getElem_map]
  have := up_strict h (j - i - 1) i l[i] l[j] (List.getElem?_eq_getElem hi) (by rw [show i + (j - i - 1) + 1 = j by omega]; exact List.getElem?_eq_getElem hj)
  omega
theorem sorted_up {l' l : List flM.Ms} (hp : l'.Perm l) (hs : ∀ (i j : Nat) (a b : flM.Ms), i < j → l'[i]? = some a → l'[j]? = some b → a.q ≤ b.q) : UpM l' l'.length ↔ (l.map (·.q)).Nodup := by
  constructor
  · intro h
    exact (hp.map (·.q)).nodup_iff.1 (up_nodup h)
  · intro h i a b hi ha hb
    have hn := (hp.map (·.q)).nodup_iff.2 h
    have h1 := hs i (i + 1) a b (by omega) ha hb
    obtain ⟨li, rfl⟩ := List.getElem?_eq_some_iff.1 ha
    obtain ⟨lj, rfl⟩ := List.getElem?_eq_some_iff.1 hb
    have h2 := List.pairwise_iff_getElem.1 hn i (i + 1) (by simpa using li) (by simpa using lj) (by omega)
    simp only [List.getElem_map] at h2
    exact cmpI_neg.2 (by omega)
theorem cmpH_neg {a b : flH.Hd} : cmpH a b < 0 ↔ hLt a b := by
  unfold cmpH hLt
  by_cases h : a.o = b.o
  · rw [if_neg (by simp; exact cmpI_zero.2 h), cmpI_neg]
    omega
  · rw [if_pos (fun e => h (cmpI_zero.1 e)), cmpI_neg]
    omega
theorem ok_iff {n : ByteArray} {nx : Int} {rs : List flM.Ms} {hs : List flH.Hd} : OkQ n nx rs hs ↔ nm.good n = true ∧ (1 ≤ nx ∧ nx ≤ 1000000000) ∧ rs.length + hs.length ≤ 500 ∧ UpM rs rs.length ∧ UpH hs hs.length ∧ (∀ h ∈ hs, hOk h = true) ∧ (∀ m ∈ rs ++ hs.map (·.m), mOk m nx = true) ∧ ((rs ++ hs.map (·.m)).map (·.q)).Nodup := by
  constructor
  · intro h
    have hup : UpM rs rs.length := fun i a b hi ha hb => cmpI_neg.2 (h.ru i a b ha hb)
    refine ⟨h.nmo, h.nxo, h.ln, hup, fun i a b hi ha hb => cmpH_neg.2 (h.hu i a b ha hb), fun x hx => ?_, fun m hm => ?_, ?_⟩
    · obtain ⟨i, hi⟩ := List.getElem?_of_mem hx
      exact (h.hm i x hi).2
    · rcases List.mem_append.1 hm with hm | hm
      · obtain ⟨i, hi⟩ := List.getElem?_of_mem hm
        exact h.rm i m hi
      · obtain ⟨x, hx, rfl⟩ := List.mem_map.1 hm
        obtain ⟨i, hi⟩ := List.getElem?_of_mem hx
        exact (h.hm i x hi).1
    · rw [List.map_append, List.nodup_append]
      refine ⟨up_nodup hup, ?_, ?_⟩
      · refine List.pairwise_iff_getElem.2 fun i j hi hj hij => ?_
        simp at hi hj
        simp only [List.getElem_map]
        exact h.d2 j i _ _ hij (List.getElem?_eq_getElem hi) (List.getElem?_eq_getElem hj)
      · intro x hx y hy
        obtain ⟨m, hm, rfl⟩ := List.mem_map.1 hx
        obtain ⟨z, hz, rfl⟩ := List.mem_map.1 hy
        obtain ⟨w, hw, rfl⟩ := List.mem_map.1 hz
        obtain ⟨i, hi⟩ := List.getElem?_of_mem hm
        obtain ⟨j, hj⟩ := List.getElem?_of_mem hw
        exact h.d1 j i _ _ hi hj
  · rintro ⟨h1, h2, h3, h4, h5, h6, h7, h8⟩
    rw [List.map_append, List.nodup_append] at h8
    obtain ⟨_, h9, h10⟩ := h8
    refine ⟨h1, h2, h3, fun i m hm => h7 m (List.mem_append_left _ (List.mem_of_getElem? hm)), fun i a b ha hb => cmpI_neg.1 (h4 i a b (List.getElem?_eq_some_iff.1 hb).1 ha hb), fun i h hh => ⟨h7 h.m (List.mem_append_right _ (List.mem_map_of_mem (List.mem_of_getElem? hh))), h6 h (List.mem_of_getElem? hh)⟩, fun i a b ha hb => cmpH_neg.1 (h5 i a b (List.getElem?_eq_some_iff.1 hb).1 ha hb), fun i k m h hm hh => h10 _ (List.mem_map_of_mem (List.mem_of_getElem? hm)) _ (List.mem_map_of_mem (List.mem_map_of_mem (List.mem_of_getElem? hh))), fun i k a b hki ha hb => ?_⟩
    obtain ⟨li, rfl⟩ := List.getElem?_eq_some_iff.1 ha
    obtain ⟨lj, rfl⟩ := List.getElem?_eq_some_iff.1 hb
    have := List.pairwise_iff_getElem.1 h9 k i (by simpa using li) (by simpa using lj) hki
    simpa using this
theorem sort_all {W : World} {B : Nat} {ao : Option Addr} {cap : Nat} {l : List flM.Ms} (h : All W B (.slice ao l.length cap) l) (hl : l.length ≤ 1048576) (hB : B ≤ W.heap.size) :
    Calls Try.prog 38 #[.slice ao l.length cap, .func (.func 32) #[] #[]] W fun e w' => e = .returned (.tuple #[]) ∧ ∃ l', l'.Perm l ∧ (∀ (i j : Nat) (a b : flM.Ms), i < j → l'[i]? = some a → l'[j]? = some b → a.q ≤ b.q) ∧ Row flM.c 5 w' w'.heap.size ao l' ∧ Below B W w' := by
  rcases h with ⟨rfl, _⟩ | ⟨g, cap', e, ho⟩
  · have hc := AnyF.slices_SortFunc_none shs.sortM ao cap (.func (.func 32) #[] #[]) W
    refine Calls.mono hc ?_
    rintro e w' ⟨he, rfl⟩
    exact ⟨he, [], List.Perm.refl _, fun i j a b _ h => by simp at h, .inl rfl, Below.refl _ _⟩
  · cases e
    refine (qs.sort_msgs l B g cap W hl ho).mono ?_
    rintro e w' ⟨he, l', h1, h2, h3, h4, h5⟩
    exact ⟨he, l', h1, h2, h3, ⟨h4.os, h4.tape, h4.output, h4.size, fun k hk => h5 k (by omega) (fun e => by have := (ho.lt g rfl).1; omega)⟩⟩
theorem low_all {W : World} {B B' : Nat} {v : Value} {l : List flM.Ms} (h : All W B v l) (hB : B' ≤ B) : All W B' v l := by
  rcases h with h | ⟨g, cap, rfl, h0, h1 | ⟨g', c', cur, e, h2, h3⟩⟩
  · exact .inl h
  · exact .inr ⟨g, cap, rfl, h0, .inl h1⟩
  · exact .inr ⟨g, cap, rfl, h0, .inr ⟨g', c', cur, e, by omega, h3⟩⟩

set_option maxRecDepth 100000 in
set_option maxHeartbeats 8000000 in
theorem impl_ok (n : ByteArray) (nx : Int) (rs : List flM.Ms) (hs : List flH.Hd) (ra ha : Option Addr) (rc hc : Nat) (w : World) (hn : n.size ≤ 1048576) (hrl : rs.length ≤ 1048576) (hhl : hs.length ≤ 1048576) (hro : ∀ e ∈ rs, e.x.size ≤ 1048576 ∧ e.k.size ≤ 1048576 ∧ e.b.size ≤ 1048576) (hho : ∀ e ∈ hs, e.m.x.size ≤ 1048576 ∧ e.m.k.size ≤ 1048576 ∧ e.m.b.size ≤ 1048576) (hR : Row flM.c 5 w w.heap.size ra rs) (hH : Row flH.c 7 w w.heap.size ha hs) :
    Calls Try.prog 11 #[.agg #[.string n, .int .i64 nx, .slice ra rs.length rc, .slice ha hs.length hc]] w fun r w' => Ans n nx rs hs r ∧ Below w.heap.size w w' := by
  have hb : Below w.heap.size w (w.alloc (.cells #[.string n, .int .i64 nx, .slice ra rs.length rc, .slice ha hs.length hc] 27)) := (Below.refl _ _).alloc (Nat.le_refl _) _
  have hA := bnew w #[.string n, .int .i64 nx, .slice ra rs.length rc, .slice ha hs.length hc] 27
  obtain ⟨W, hW⟩ : ∃ W, w.alloc (.cells #[.string n, .int .i64 nx, .slice ra rs.length rc, .slice ha hs.length hc] 27) = W := ⟨_, rfl⟩
  have hsW : W.heap.size = w.heap.size + 1 := by rw [← hW]; simp
  rw [hW] at hb hA
  have HR : Hid (Row flM.c 5 W W.heap.size ra rs) := hR.inn hb
  have HH : Hid (Row flH.c 7 W W.heap.size ha hs) := hH.inn hb
  have HA : Hid (W.heap[w.heap.size]? = some (.cells #[.string n, .int .i64 nx, .slice ra rs.length rc, .slice ha hs.length hc] 27 (0, 0))) := hA
  have BX : Hid (∀ w', Below W.heap.size W w' → w'.cell? ⟨w.heap.size, 0, none⟩ = some (.string n) ∧ w'.cell? ⟨w.heap.size, 1, none⟩ = some (.int .i64 nx) ∧ w'.cell? ⟨w.heap.size, 2, none⟩ = some (.slice ra rs.length rc) ∧ w'.cell? ⟨w.heap.size, 3, none⟩ = some (.slice ha hs.length hc)) := fun w' h => by
    have h1 := bstay HA.out h (by omega)
    exact ⟨bcell h1 rfl, bcell h1 rfl, bcell h1 rfl, bcell h1 rfl⟩
  obtain ⟨c0, c1, c2, c3⟩ := BX.out W (Below.refl _ _)
  have HRO : Hid (∀ e ∈ rs, e.x.size ≤ 1048576 ∧ e.k.size ≤ 1048576 ∧ e.b.size ≤ 1048576) := hro
  have HHO : Hid (∀ e ∈ hs, e.m.x.size ≤ 1048576 ∧ e.m.k.size ≤ 1048576 ∧ e.m.b.size ≤ 1048576) := hho
  have hnm := fun W => nm.impl_name n W hn
  have hwr : IntKind.i64.wrap ((rs.length : Int) + (hs.length : Int)) = (rs.length : Int) + (hs.length : Int) := by rw [IntKind.wrap_i64]; omega
  clear hR hH hA hro hho
  generalize hb2 : nm.good n = b2 at hnm
  have HB2 : Hid (nm.good n = b2) := hb2
  clear hb2
  by_cases hg : b2 = true ∧ (1 ≤ nx ∧ nx ≤ 1000000000) ∧ rs.length + hs.length ≤ 500
  case neg =>
    have hbad : Hid (¬ OkQ n nx rs hs) := fun h => hg ⟨HB2.out.symm.trans h.nmo, h.nxo, h.ln⟩
    cases b2
    · clear hg
      go_enter Try.func11, Try.ntmps11
      go_wp2_with (go_at_call 30; refine (hnm _).mono ?_; rintro e w2 ⟨rfl, hw2⟩; subst hw2)
      go_ret
      exact ⟨ans_no hbad.out, hb⟩
    · by_cases h1 : nx < 1
      · have d1 : decide (nx < 1) = true := decide_eq_true h1
        clear hg h1
        go_enter Try.func11, Try.ntmps11
        go_wp2_with (go_at_call 30; refine (hnm _).mono ?_; rintro e w2 ⟨rfl, hw2⟩; subst hw2)
        go_ret
        exact ⟨ans_no hbad.out, hb⟩
      · have d1 : decide (nx < 1) = false := decide_eq_false h1
        by_cases h2 : 1000000000 < nx
        · have d2 : decide (1000000000 < nx) = true := decide_eq_true h2
          clear hg h1 h2
          go_enter Try.func11, Try.ntmps11
          go_wp2_with (go_at_call 30; refine (hnm _).mono ?_; rintro e w2 ⟨rfl, hw2⟩; subst hw2)
          go_ret
          exact ⟨ans_no hbad.out, hb⟩
        · have d2 : decide (1000000000 < nx) = false := decide_eq_false h2
          have hgt : (500 : Int) < (rs.length : Int) + (hs.length : Int) := by
            by_cases h : rs.length + hs.length ≤ 500
            · exact absurd ⟨rfl, ⟨by omega, by omega⟩, h⟩ hg
            · omega
          clear hg h1 h2
          go_enter Try.func11, Try.ntmps11
          go_wp2_with (go_at_call 30; refine (hnm _).mono ?_; rintro e w2 ⟨rfl, hw2⟩; subst hw2)
          go_ret
          exact ⟨ans_no hbad.out, hb⟩
  case pos =>
    obtain ⟨rfl, hnx, hlen⟩ := hg
    have d1 : decide (nx < 1) = false := decide_eq_false (by omega)
    have d2 : decide (1000000000 < nx) = false := decide_eq_false (by omega)
    have hgt : ¬ (500 : Int) < (rs.length : Int) + (hs.length : Int) := by omega
    have hasc := asc_msg rs ra rc W hrl HR.out
    go_enter Try.func11, Try.ntmps11
    go_wp2_with (first | (go_at_call 30; refine (hnm _).mono ?_; rintro e w2 ⟨rfl, hw2⟩; subst hw2) | (go_at_call 31; fail))
    refine hasc.mono ?_
    rintro e w3 ⟨⟨bo, rfl, hbo⟩, hb3⟩
    have HBO : Hid (bo = true ↔ UpM rs rs.length) := hbo
    clear hbo hasc hnm
    obtain ⟨c0, c1, c2, c3⟩ := BX.out w3 hb3
    cases bo
    · have hbad : Hid (¬ OkQ n nx rs hs) := fun h => by have := HBO.out.2 (ok_iff.1 h).2.2.2.1; cases this
      clear HBO
      go_wp2
      go_ret
      exact ⟨ans_no hbad.out, hb.trans (hb3.mono hb.size)⟩
    have HUP : Hid (UpM rs rs.length) := HBO.out.1 rfl
    have hasc := asc_held hs ha hc w3 hhl (HH.out.inn hb3)
    clear HBO
    go_wp2_with (go_at_call 33; fail)
    refine hasc.mono ?_
    rintro e w4 ⟨⟨bo, rfl, hbo⟩, hb4⟩
    have HBO : Hid (bo = true ↔ UpH hs hs.length) := hbo
    have hB4 : Below W.heap.size W w4 := hb3.trans (hb4.mono hb3.size)
    clear hbo hasc c0 c1 c2 c3
    obtain ⟨c0, c1, c2, c3⟩ := BX.out w4 hB4
    cases bo
    · have hbad : Hid (¬ OkQ n nx rs hs) := fun h => by have := HBO.out.2 (ok_iff.1 h).2.2.2.2.1; cases this
      clear HBO
      go_wp2
      go_ret
      exact ⟨ans_no hbad.out, hb.trans (hB4.mono hb.size)⟩
    have HUPH : Hid (UpH hs hs.length) := HBO.out.1 rfl
    have hcl := clone_msgs rs ra rc w4 hrl (HR.out.inn hB4)
    clear HBO
    go_wp2_with (go_at_call 35; fail)
    refine hcl.mono ?_
    rintro e w5 ⟨⟨v5, rfl, hall5⟩, hb5⟩
    have hB5 : Below W.heap.size W w5 := hB4.trans (hb5.mono hB4.size)
    clear hcl c0 c1 c2 c3
    obtain ⟨c0, c1, c2, c3⟩ := BX.out w5 hB5
    have HALL : Hid (All w5 (w.heap.size + 1) v5 (rs ++ (hs.take 0).map (·.m))) := by
      show All w5 (w.heap.size + 1) v5 (rs ++ (hs.take 0).map (·.m))
      simp
      exact low_all hall5 (by have := hB4.size; omega)
    have HB5 : Hid (Below W.heap.size W w5) := hB5
    clear hall5 hb5 hB5 hb3 hb4 hB4 hgt hwr d1 d2 hW
    go_wp2
    clear c0 c1 c2 c3
    go_loopw [3, 48] (fun v x wr => ∃ k : Nat, k ≤ hs.length ∧ x = .int .i64 k ∧ Hid (All wr (w.heap.size + 1) v (rs ++ (hs.take k).map (·.m))) ∧ Hid (∀ (i : Nat) (h : flH.Hd), i < k → hs[i]? = some h → hOk h = true) ∧ Hid (Below W.heap.size W wr)) (fun _ x _ => hs.length - (intOf x).toNat)
    case atStart => exact ⟨0, Nat.zero_le _, rfl, HALL, fun i h h0 => by omega, HB5⟩
    case round =>
      clear HALL HB5
      obtain ⟨k, hk1, rfl, hall, hhk, hbel⟩ := hrel
      have hbsz := hbel.out.size
      by_cases hkl : k < hs.length
      · have HG : Hid (hs[k]? = some hs[k]) := List.getElem?_eq_getElem hkl
        obtain ⟨⟨ht, hw, ⟨hq, hx, hk, hbd, hag⟩⟩, he⟩ : ∃ e, hs[k] = e := ⟨_, rfl⟩
        rw [he] at HG
        rcases HH.out with h0 | ⟨b, off, hha, hltW, hc7⟩
        · rw [h0] at hkl; simp at hkl
        have hha' := hha.symm
        subst hha'
        have HC : Hid (∀ (i : Nat) (e : flH.Hd), hs[i]? = some e → ∀ (j : Nat) (v : Value), (flH.c e)[j]? = some v → W.cell? ⟨b, off + i * 7 + j, none⟩ = some v) := hc7
        have e0 : wr.cell? ⟨b, off + k * 7, none⟩ = some (.int .i64 ht) := (hbel.out.cell (p := ⟨b, off + k * 7, none⟩) hltW).trans (HC.out k _ HG.out 0 _ rfl)
        have e1 : wr.cell? ⟨b, off + k * 7 + 1, none⟩ = some (.int .i64 hw) := (hbel.out.cell (p := ⟨b, off + k * 7 + 1, none⟩) hltW).trans (HC.out k _ HG.out 1 _ rfl)
        have e2 : wr.cell? ⟨b, off + k * 7 + 2, none⟩ = some (.int .i64 hq) := (hbel.out.cell (p := ⟨b, off + k * 7 + 2, none⟩) hltW).trans (HC.out k _ HG.out 2 _ rfl)
        have e3 : wr.cell? ⟨b, off + k * 7 + 3, none⟩ = some (.string hx) := (hbel.out.cell (p := ⟨b, off + k * 7 + 3, none⟩) hltW).trans (HC.out k _ HG.out 3 _ rfl)
        have e4 : wr.cell? ⟨b, off + k * 7 + 4, none⟩ = some (.string hk) := (hbel.out.cell (p := ⟨b, off + k * 7 + 4, none⟩) hltW).trans (HC.out k _ HG.out 4 _ rfl)
        have e5 : wr.cell? ⟨b, off + k * 7 + 5, none⟩ = some (.string hbd) := (hbel.out.cell (p := ⟨b, off + k * 7 + 5, none⟩) hltW).trans (HC.out k _ HG.out 5 _ rfl)
        have e6 : wr.cell? ⟨b, off + k * 7 + 6, none⟩ = some (.bool hag) := (hbel.out.cell (p := ⟨b, off + k * 7 + 6, none⟩) hltW).trans (HC.out k _ HG.out 6 _ rfl)
        have i3 : (k : Int) < (hs.length : Int) := by omega
        have hx1 := bnew wr #[.int .i64 ht, .int .i64 hw, .int .i64 hq, .string hx, .string hk, .string hbd, .bool hag] 55
        have hbX : Below wr.heap.size wr (wr.alloc (.cells #[.int .i64 ht, .int .i64 hw, .int .i64 hq, .string hx, .string hk, .string hbd, .bool hag] 55)) := (Below.refl _ _).alloc (Nat.le_refl _) _
        obtain ⟨X1, hX1⟩ : ∃ X1, wr.alloc (.cells #[.int .i64 ht, .int .i64 hw, .int .i64 hq, .string hx, .string hk, .string hbd, .bool hag] 55) = X1 := ⟨_, rfl⟩
        rw [hX1] at hx1 hbX
        have y0 : X1.cell? ⟨wr.heap.size, 0, none⟩ = some (.int .i64 ht) := bcell hx1 rfl
        have y1 : X1.cell? ⟨wr.heap.size, 1, none⟩ = some (.int .i64 hw) := bcell hx1 rfl
        have y2 : X1.cell? ⟨wr.heap.size, 2, none⟩ = some (.int .i64 hq) := bcell hx1 rfl
        have y3 : X1.cell? ⟨wr.heap.size, 3, none⟩ = some (.string hx) := bcell hx1 rfl
        have y4 : X1.cell? ⟨wr.heap.size, 4, none⟩ = some (.string hk) := bcell hx1 rfl
        have y5 : X1.cell? ⟨wr.heap.size, 5, none⟩ = some (.string hbd) := bcell hx1 rfl
        have y6 : X1.cell? ⟨wr.heap.size, 6, none⟩ = some (.bool hag) := bcell hx1 rfl
        have hXs := hbX.size
        have hBX : Below W.heap.size W X1 := hbel.out.trans (hbX.mono hbsz)
        have hhd := fun W => impl_hand hw ht W
        have HHB : Hid (hOk ⟨ht, hw, ⟨hq, hx, hk, hbd, hag⟩⟩ = (decide (0 ≤ hw ∧ hw ≤ 1000) && decide (1 ≤ ht ∧ ht ≤ 1000000000))) := rfl
        generalize (decide (0 ≤ hw ∧ hw ≤ 1000) && decide (1 ≤ ht ∧ ht ≤ 1000000000)) = bh at hhd HHB
        have hlen2 : (rs ++ (hs.take k).map (·.m)).length ≤ 1048576 := by simp; omega
        have hall2 : All (X1.alloc (.cells #[.int .i64 hq, .string hx, .string hk, .string hbd, .bool hag] 41)) (w.heap.size + 1) u3 (rs ++ (hs.take k).map (·.m)) := (hall.out.on hbX).on ((Below.refl _ _).alloc (Nat.le_refl _) _)
        obtain ⟨v', w', hrun, hall', hbw'⟩ := app_one ⟨hq, hx, hk, hbd, hag⟩ hall2 (by simp; omega) hlen2 (bnew X1 _ _) 24
        have HRUN : Hid ((Builtin.append_ #[24, 24] 24 #[u3, .slice (some ⟨X1.heap.size, 0, none⟩) 1 1]).run Try.prog (X1.alloc (.cells #[.int .i64 hq, .string hx, .string hk, .string hbd, .bool hag] 41)) = .ok v' w') := hrun
        have hnext : Hid (All w' (w.heap.size + 1) v' (rs ++ (hs.take (k + 1)).map (·.m))) := by
          show All w' (w.heap.size + 1) v' (rs ++ (hs.take (k + 1)).map (·.m))
          rw [List.take_add_one, HG.out, Option.toList_some, List.map_append, ← List.append_assoc]
          exact hall'
        have hbn : Hid (Below W.heap.size W w') := by
          show Below W.heap.size W w'
          have h1 : Below W.heap.size W (X1.alloc (.cells #[.int .i64 hq, .string hx, .string hk, .string hbd, .bool hag] 41)) := hBX.alloc (by omega) _
          exact h1.trans (by rw [hsW]; exact hbw')
        clear he hx1 hc7 hall2 hrun hall' hbw' hlen2
        cases bh
        · have hbad : Hid (¬ OkQ n nx rs hs) := fun h => by
            have := (h.hm k _ HG.out).2
            rw [HHB.out] at this
            cases this
          clear HRUN hnext hbn HHB
          go_wp2_with (go_at_call 36; refine (hhd _).mono ?_; rintro e w9 ⟨rfl, hw9⟩; subst hw9)
          go_ret
          exact ⟨ans_no hbad.out, hb.trans (hBX.mono hb.size)⟩
        · have hhk2 : Hid (∀ (i : Nat) (h : flH.Hd), i < k + 1 → hs[i]? = some h → hOk h = true) := fun i h hi hh => by
            by_cases ei : i = k
            · subst ei; rw [HG.out] at hh; cases hh; exact HHB.out
            · exact hhk.out i h (by omega) hh
          clear HHB
          go_wp2_with (first | (go_at_call 36; refine (hhd _).mono ?_; rintro e w9 ⟨rfl, hw9⟩; subst hw9) | (at_builtin; refine cpr.wpList_append_run rfl _ _ 24 24 rfl _ _ _ rfl rfl HRUN.out ?_))
          go_wp2
          go_roundw
          all_goals first | exact ⟨k + 1, by omega, by go_num, hnext, hhk2, hbn⟩ | (simp [intOf]; omega)
      · obtain rfl : k = hs.length := by omega
        rw [List.take_length] at hall
        obtain ⟨ao, cap, hv⟩ := hall.out.form
        subst hv
        obtain ⟨al, hal⟩ : ∃ al, rs ++ hs.map (·.m) = al := ⟨_, rfl⟩
        have HAL : Hid (rs ++ hs.map (·.m) = al) := hal
        rw [hal] at hall ⊢
        have hall3 : al.length ≤ 1048576 := by rw [← hal]; simp; omega
        clear hkl hk1 hal
        go_wp2
        have HSZ : Hid (∀ m ∈ al, m.x.size ≤ 1048576 ∧ m.k.size ≤ 1048576 ∧ m.b.size ≤ 1048576) := fun m hm => by
          rw [← HAL.out] at hm
          rcases List.mem_append.1 hm with hm | hm
          · exact HRO.out m hm
          · obtain ⟨x, hx, rfl⟩ := List.mem_map.1 hm
            exact HHO.out x hx
        go_loopw [66] (fun x wr => ∃ k : Nat, k ≤ al.length ∧ x = .int .i64 k ∧ Hid (All wr (w.heap.size + 1) (.slice ao al.length cap) al) ∧ Hid (∀ (i : Nat) (m : flM.Ms), i < k → al[i]? = some m → mOk m nx = true) ∧ Hid (Below W.heap.size W wr)) (fun x _ => al.length - (intOf x).toNat)
        case atStart => exact ⟨0, Nat.zero_le _, rfl, hall, fun i h h0 => by omega, hbel⟩
        case round =>
          clear hall hbel hbsz
          obtain ⟨k, hk1, rfl, hall, hmk, hbel⟩ := hrel
          have hbsz := hbel.out.size
          by_cases hkl : k < al.length
          · have HG : Hid (al[k]? = some al[k]) := List.getElem?_eq_getElem hkl
            have hsm := HSZ.out al[k] (List.getElem_mem hkl)
            obtain ⟨⟨mq, mx, mk, mbd, mag⟩, he⟩ : ∃ e, al[k] = e := ⟨_, rfl⟩
            rw [he] at HG hsm
            rcases hall.out.row with h0 | ⟨b, off, hao, hltm, hcm⟩
            · rw [h0] at hkl; simp at hkl
            have hao' := hao.symm
            subst hao'
            have e0 : wr.cell? ⟨b, off + k * 5, none⟩ = some (.int .i64 mq) := hcm k _ HG.out 0 _ rfl
            have e1 : wr.cell? ⟨b, off + k * 5 + 1, none⟩ = some (.string mx) := hcm k _ HG.out 1 _ rfl
            have e2 : wr.cell? ⟨b, off + k * 5 + 2, none⟩ = some (.string mk) := hcm k _ HG.out 2 _ rfl
            have e3 : wr.cell? ⟨b, off + k * 5 + 3, none⟩ = some (.string mbd) := hcm k _ HG.out 3 _ rfl
            have e4 : wr.cell? ⟨b, off + k * 5 + 4, none⟩ = some (.bool mag) := hcm k _ HG.out 4 _ rfl
            have i3 : (k : Int) < (al.length : Int) := by omega
            have hx1 := bnew wr #[.int .i64 mq, .string mx, .string mk, .string mbd, .bool mag] 41
            have hbX : Below wr.heap.size wr (wr.alloc (.cells #[.int .i64 mq, .string mx, .string mk, .string mbd, .bool mag] 41)) := (Below.refl _ _).alloc (Nat.le_refl _) _
            obtain ⟨X1, hX1⟩ : ∃ X1, wr.alloc (.cells #[.int .i64 mq, .string mx, .string mk, .string mbd, .bool mag] 41) = X1 := ⟨_, rfl⟩
            rw [hX1] at hx1 hbX
            have y0 : X1.cell? ⟨wr.heap.size, 0, none⟩ = some (.int .i64 mq) := bcell hx1 rfl
            have y1 : X1.cell? ⟨wr.heap.size, 1, none⟩ = some (.string mx) := bcell hx1 rfl
            have y2 : X1.cell? ⟨wr.heap.size, 2, none⟩ = some (.string mk) := bcell hx1 rfl
            have y3 : X1.cell? ⟨wr.heap.size, 3, none⟩ = some (.string mbd) := bcell hx1 rfl
            have y4 : X1.cell? ⟨wr.heap.size, 4, none⟩ = some (.bool mag) := bcell hx1 rfl
            have hBX : Below W.heap.size W X1 := hbel.out.trans (hbX.mono hbsz)
            obtain ⟨c0, c1, c2, c3⟩ := BX.out X1 hBX
            have hmo := impl_msg ⟨mq, mx, mk, mbd, mag⟩ nx X1 hsm
            clear he hx1 hcm
            cases hmv : mOk ⟨mq, mx, mk, mbd, mag⟩ nx with
            | false =>
              rw [hmv] at hmo
              have hbad : Hid (¬ OkQ n nx rs hs) := fun h => by
                have := (ok_iff.1 h).2.2.2.2.2.2.1 _ (by rw [HAL.out]; exact List.mem_of_getElem? HG.out)
                rw [hmv] at this
                cases this
              clear hmv
              go_wp2_with (go_at_call 37; refine hmo.mono ?_; rintro e w9 ⟨rfl, hb9⟩)
              go_ret
              exact ⟨ans_no hbad.out, hb.trans ((hBX.trans (hb9.mono hBX.size)).mono hb.size)⟩
            | true =>
              rw [hmv] at hmo
              have hmk2 : Hid (∀ (i : Nat) (m : flM.Ms), i < k + 1 → al[i]? = some m → mOk m nx = true) := fun i m hi hm => by
                by_cases ei : i = k
                · subst ei; rw [HG.out] at hm; cases hm; exact hmv
                · exact hmk.out i m (by omega) hm
              clear hmv
              go_wp2_with (go_at_call 37; refine hmo.mono ?_; rintro e w9 ⟨rfl, hb9⟩)
              go_wp2
              go_roundw
              all_goals first | exact ⟨k + 1, by omega, by go_num, (hall.out.on hbX).on hb9, hmk2, hBX.trans (hb9.mono hBX.size)⟩ | (simp [intOf]; omega)
          · obtain rfl : k = al.length := by omega
            have HFIN : Hid ((al.map (·.q)).Nodup → OkQ n nx rs hs) := fun hnd => ok_iff.2 ⟨HB2.out, hnx, hlen, HUP.out, HUPH.out, fun h hh => by
              obtain ⟨i, hi⟩ := List.getElem?_of_mem hh
              exact hhk.out i h (List.getElem?_eq_some_iff.1 hi).1 hi, fun m hm => by
              rw [HAL.out] at hm
              obtain ⟨i, hi⟩ := List.getElem?_of_mem hm
              exact hmk.out i m (List.getElem?_eq_some_iff.1 hi).1 hi, by rw [HAL.out]; exact hnd⟩
            have HNEC : Hid (OkQ n nx rs hs → (al.map (·.q)).Nodup) := fun h => by have := (ok_iff.1 h).2.2.2.2.2.2.2; rw [HAL.out] at this; exact this
            have hsort : Calls Try.prog 38 #[.slice ao al.length cap, .func (.func 32) #[] #[]] wr fun e w' => e = .returned (.tuple #[]) ∧ ∃ l', l'.Perm al ∧ (∀ (i j : Nat) (a b : flM.Ms), i < j → l'[i]? = some a → l'[j]? = some b → a.q ≤ b.q) ∧ Row flM.c 5 w' w'.heap.size ao l' ∧ Below (w.heap.size + 1) wr w' := sort_all hall.out hall3 (by omega)
            clear hkl hk1 hall hmk hhk
            go_wp2_with (go_at_call 38; fail)
            refine hsort.mono ?_
            rintro e w10 ⟨rfl, l', hp, hst, hrow, hb10⟩
            have hpl : l'.length = al.length := hp.length_eq
            have hasc := asc_msg l' ao cap w10 (by omega) hrow
            rw [hpl] at hasc
            have HUPD : Hid (UpM l' l'.length ↔ (al.map (·.q)).Nodup) := sorted_up hp hst
            have hB10 : Below W.heap.size W w10 := hbel.out.trans (by rw [hsW]; exact hb10)
            clear hsort hp hst hrow
            go_wp2_with (go_at_call 31; fail)
            refine hasc.mono ?_
            rintro e w11 ⟨⟨bo, rfl, hbo⟩, hb11⟩
            have HBO : Hid (bo = true ↔ UpM l' l'.length) := by rw [← hpl] at hbo; exact hbo
            have hfin : Below w.heap.size w w11 := hb.trans ((hB10.trans (hb11.mono hB10.size)).mono hb.size)
            clear hasc hbo
            go_wp2
            go_ret
            exact ⟨⟨bo, rfl, HBO.out.trans (HUPD.out.trans ⟨HFIN.out, HNEC.out⟩)⟩, hfin⟩
end Go.Proofs.Ytnlcmheahihlpaa.qki
