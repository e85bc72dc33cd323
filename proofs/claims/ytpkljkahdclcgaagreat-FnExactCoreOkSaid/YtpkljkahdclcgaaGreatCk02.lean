/- append(s, make(S, n)...) where it must grow: a new row with s's cells, then zero values. -/
import Derived.Shelf.SlGeneric
import Derived.Shelf.SlSortCmp.WholeK
import Derived.Shelf.SlSortCmp.NoneTotal
import Derived.Test.YtpkljkahdclcgaaGreatRows
import Derived.Test.YtpkljkahdclcgaaGreatCk01
import Derived.Test.YtpkljkahdclcgaaGreatFlatOwn
import Derived.Laws.Append

/- slices.SortFunc at messages, laid by the kit's own program (shelf_lay_g, in plain words) at the seat YtpkljkahdclcgaaGreat: its numbers are that seat's; lay it anew for another (laysort.py). -/
namespace Go.Proofs.YtpkljkahdclcgaaGreat.shs
open Go.Shelf
def sortM_ren : Go.Shelf.Ren := ⟨fun | 6 => 107 | 15 => 166 | 14 => 165 | 28 => 201 | 29 => 202 | 20 => 193 | 21 => 194 | 22 => 195 | 23 => 196 | 24 => 197 | 25 => 198 | 26 => 199 | 27 => 200 | 46 => 211 | 47 => 212 | 48 => 213 | 49 => 214 | 50 => 215 | 57 => 218 | n => n, fun | 22 => 65 | 24 => 48 | 25 => 143 | 3 => 3 | 39 => 199 | 0 => 0 | 53 => 242 | 55 => 244 | 4 => 4 | 46 => 236 | 45 => 235 | 50 => 83 | 5 => 5 | 9 => 9 | 66 => 255 | 70 => 259 | 76 => 263 | 77 => 264 | n => n, fun | n => n⟩
theorem sortM : Go.Proofs.SlLaysF0.n6 Tryz.prog sortM_ren := {
  mixed := by kernel_rfl
  f6 := ⟨Tryz.f107.name, by decide, Tryz.func107.trans (congrArg some (by kernel_rfl))⟩
  f14 := ⟨Tryz.f165.name, by decide, Tryz.func165.trans (congrArg some (by kernel_rfl))⟩
  f15 := Tryz.func166.trans (congrArg some (by kernel_rfl))
  f20 := ⟨Tryz.f193.name, by decide, Tryz.func193.trans (congrArg some (by kernel_rfl))⟩
  f21 := ⟨Tryz.f194.name, by decide, Tryz.func194.trans (congrArg some (by kernel_rfl))⟩
  f22 := ⟨Tryz.f195.name, by decide, Tryz.func195.trans (congrArg some (by kernel_rfl))⟩
  f23 := ⟨Tryz.f196.name, by decide, Tryz.func196.trans (congrArg some (by kernel_rfl))⟩
  f24 := ⟨Tryz.f197.name, by decide, Tryz.func197.trans (congrArg some (by kernel_rfl))⟩
  f25 := ⟨Tryz.f198.name, by decide, Tryz.func198.trans (congrArg some (by kernel_rfl))⟩
  f26 := ⟨Tryz.f199.name, by decide, Tryz.func199.trans (congrArg some (by kernel_rfl))⟩
  f27 := ⟨Tryz.f200.name, by decide, Tryz.func200.trans (congrArg some (by kernel_rfl))⟩
  f28 := Tryz.func201.trans (congrArg some (by kernel_rfl))
  f29 := Tryz.func202.trans (congrArg some (by kernel_rfl))
  f46 := ⟨Tryz.f211.name, by decide, Tryz.func211.trans (congrArg some (by kernel_rfl))⟩
  f47 := Tryz.func212.trans (congrArg some (by kernel_rfl))
  f48 := Tryz.func213.trans (congrArg some (by kernel_rfl))
  f49 := ⟨Tryz.f214.name, by decide, Tryz.func214.trans (congrArg some (by kernel_rfl))⟩
  f50 := ⟨Tryz.f215.name, by decide, Tryz.func215.trans (congrArg some (by kernel_rfl))⟩
  f57 := ⟨Tryz.f218.name, by decide, Tryz.func218.trans (congrArg some (by kernel_rfl))⟩
  t0 := Tryz.underlying0
  a0 := Tryz.isAgg0
  z0 := Tryz.sizeOf0
  v0 := Tryz.zeroValue0
  t3 := Tryz.underlying3
  a3 := Tryz.isAgg3
  z3 := Tryz.sizeOf3
  v3 := Tryz.zeroValue3
  t4 := Tryz.underlying4
  a4 := Tryz.isAgg4
  z4 := Tryz.sizeOf4
  v4 := Tryz.zeroValue4
  t5 := Tryz.underlying5
  a5 := Tryz.isAgg5
  z5 := Tryz.sizeOf5
  v5 := Tryz.zeroValue5
  t9 := Tryz.underlying9
  a9 := Tryz.isAgg9
  z9 := Tryz.sizeOf9
  v9 := Tryz.zeroValue9
  t22 := Tryz.underlying65
  a22 := Tryz.isAgg65
  z22 := Tryz.sizeOf65
  v22 := Tryz.zeroValue65
  t25 := Tryz.underlying143
  a25 := Tryz.isAgg143
  z25 := Tryz.sizeOf143
  v25 := Tryz.zeroValue143
  t39 := Tryz.underlying199
  a39 := Tryz.isAgg199
  z39 := Tryz.sizeOf199
  v39 := Tryz.zeroValue199
  t45 := Tryz.underlying235
  a45 := Tryz.isAgg235
  z45 := Tryz.sizeOf235
  v45 := Tryz.zeroValue235
  t46 := Tryz.underlying236
  a46 := Tryz.isAgg236
  z46 := Tryz.sizeOf236
  v46 := Tryz.zeroValue236
  t50 := Tryz.underlying83
  a50 := Tryz.isAgg83
  z50 := Tryz.sizeOf83
  v50 := Tryz.zeroValue83
  t53 := Tryz.underlying242
  a53 := Tryz.isAgg242
  z53 := Tryz.sizeOf242
  v53 := Tryz.zeroValue242
  t55 := Tryz.underlying244
  a55 := Tryz.isAgg244
  z55 := Tryz.sizeOf244
  v55 := Tryz.zeroValue244
  t66 := Tryz.underlying255
  a66 := Tryz.isAgg255
  z66 := Tryz.sizeOf255
  v66 := Tryz.zeroValue255
  t70 := Tryz.underlying259
  a70 := Tryz.isAgg259
  z70 := Tryz.sizeOf259
  v70 := Tryz.zeroValue259
  t76 := Tryz.underlying263
  a76 := Tryz.isAgg263
  z76 := Tryz.sizeOf263
  v76 := Tryz.zeroValue263
  t77 := Tryz.underlying264
  a77 := Tryz.isAgg264
  z77 := Tryz.sizeOf264
  v77 := Tryz.zeroValue264 }
end Go.Proofs.YtpkljkahdclcgaaGreat.shs

/- slices.SortFunc of messages by their Seq: the same messages, none behind a greater one. -/
namespace Go.Proofs.YtpkljkahdclcgaaGreat.qs
open Go.Shelf Go.RowKit Go.Lib Go.Sort Go.Proofs.YtpkljkahdclcgaaGreat.fl Go.Proofs.YtpkljkahdclcgaaGreat.qk Go.Proofs.YtpkljkahdclcgaaGreat.qc
set_option linter.unusedVariables false

instance : Inhabited flM.Ms := ⟨⟨0, ⟨#[]⟩, ⟨#[]⟩, ⟨#[]⟩, false⟩⟩
theorem lt_msg (x y : flM.Ms) : ltOf cmpM x y = decide (x.q < y.q) := by
  unfold ltOf cmpM
  by_cases h : x.q < y.q
  · rw [decide_eq_true h, decide_eq_true (cmpI_neg.2 h)]
  · rw [decide_eq_false h, decide_eq_false (fun e => h (cmpI_neg.1 e))]
theorem swo : SWO (ltOf cmpM) where
  irrefl x := by rw [lt_msg]; simp
  trans x y z h1 h2 := by rw [lt_msg] at *; simp at *; omega
  ntrans x y z h1 h2 := by rw [lt_msg] at *; simp at *; omega
set_option maxHeartbeats 1000000 in
theorem closure (x y : flM.Ms) (W : World) : Calls Tryz.prog 101 #[.agg #[.int .i64 x.q, .string x.x, .string x.k, .string x.b, .bool x.a], .agg #[.int .i64 y.q, .string y.x, .string y.k, .string y.b, .bool y.a]] W fun e w' => e = .returned (.int .i64 (cmpM x y)) ∧ ∃ q os', w' = grow (W.drewN q) os' := by
  obtain ⟨aq, ax, ak, ad, ag⟩ := x
  obtain ⟨bq, bx, bk, bd, bg⟩ := y
  have hc := fun W => cmp_int aq bq W
  show Calls _ _ _ _ fun e w' => e = .returned (.int .i64 (cmpI aq bq)) ∧ _
  generalize cmpI aq bq = r at hc ⊢
  go_enter Tryz.func101, Tryz.ntmps101
  go_wp2_with (go_at_call 164; refine (hc _).mono ?_; rintro e w0 ⟨rfl, hw0⟩; rw [hw0]; clear hw0 w0)
  go_ret
  exact ⟨rfl, 0, _, by rw [alloc_eq_grow, alloc_eq_grow, grow_grow]; rfl⟩
theorem lays (blk off size : Nat) (w : World) : CmpLays Tryz.prog 101 #[] flM.c 5 cmpM blk off size w := fun _ _ _ _ x y => closure x y _
theorem holds {w : World} {B g cap : Nat} {l : List flM.Ms} (ho : w.ownsRow B 48 5 (.slice (some ⟨g, 0, none⟩) l.length cap) l.length (l.flatMap flM.c)) : HoldsK flM.c 5 w g 0 l.toArray := by
  obtain ⟨_, ⟨h1, _⟩ | ⟨g', cap', cur, h1, h2, h3, h4, h5, h6, h7⟩⟩ := ho
  · cases h1
  cases h1
  intro j hj
  rw [size_flatK] at hj
  have hjl : j < l.length * 5 := by simpa using hj
  have hi : j / 5 < l.length := by omega
  have hg : l[j / 5]? = some l[j / 5] := List.getElem?_eq_getElem hi
  have hr : j % 5 < (flM.c l[j / 5]).length := by show j % 5 < 5; omega
  have hv : (flM.c l[j / 5])[j % 5]? = some (flM.c l[j / 5])[j % 5] := List.getElem?_eq_getElem hr
  have hf := flat_at flM.c_len l (j / 5) _ hg (j % 5) _ hv
  rw [show j / 5 * 5 + j % 5 = j by omega, ← h7, List.getElem?_take_of_lt hjl] at hf
  have e1 : l.toArray[j / 5]! = l[j / 5] := by simp [hi]
  refine ⟨?_, by rw [Nat.zero_add]; exact bfree h3 j⟩
  rw [Nat.zero_add, get_flatK _ _ _ _ hj, e1]
  have e2 : (flM.c l[j / 5])[j % 5]! = (flM.c l[j / 5])[j % 5] := getElem!_pos (flM.c l[j / 5]) (j % 5) hr
  rw [e2]
  exact bcell h3 (by simpa using hf)
theorem row_holds {w : World} {g : Nat} {d : Array flM.Ms} (hlt : g < w.heap.size) (h : HoldsK flM.c 5 w g 0 d) : Row flM.c 5 w w.heap.size (some ⟨g, 0, none⟩) d.toList := by
  refine .inr ⟨g, 0, rfl, hlt, fun i e he j v hv => ?_⟩
  have hi : i < d.size := by have := (List.getElem?_eq_some_iff.1 he).1; simpa using this
  have hj : j < 5 := by have := (List.getElem?_eq_some_iff.1 hv).1; exact this
  have ht : i * 5 + j < d.size * 5 := by omega
  have h1 := (h (i * 5 + j) (by rw [size_flatK]; exact ht)).1
  rw [get_flatK _ _ _ _ ht, show (i * 5 + j) / 5 = i by omega, show (i * 5 + j) % 5 = j by omega] at h1
  have e1 : d[i]! = e := by
    rw [getElem!_pos d i hi]
    have h2 := (List.getElem?_eq_some_iff.1 he).2
    simpa using h2
  rw [e1] at h1
  have e2 : (flM.c e)[j]! = v := (getElem!_pos (flM.c e) j (List.getElem?_eq_some_iff.1 hv).1).trans (List.getElem?_eq_some_iff.1 hv).2
  rw [e2] at h1
  rw [show 0 + i * 5 + j = 0 + (i * 5 + j) by omega]
  exact h1
set_option maxHeartbeats 1000000 in
theorem sort_msgs (l : List flM.Ms) (B g cap : Nat) (w : World) (hl : l.length ≤ 1048576) (ho : w.ownsRow B 48 5 (.slice (some ⟨g, 0, none⟩) l.length cap) l.length (l.flatMap flM.c)) :
    Calls Tryz.prog 107 #[.slice (some ⟨g, 0, none⟩) l.length cap, .func (.func 101) #[] #[]] w fun e w' => e = .returned (.tuple #[]) ∧ ∃ l', l'.Perm l ∧ (∀ (i j : Nat) (a b : flM.Ms), i < j → l'[i]? = some a → l'[j]? = some b → a.q ≤ b.q) ∧ Row flM.c 5 w' w'.heap.size (some ⟨g, 0, none⟩) l' ∧ RowKit.Below 0 w w' ∧ ∀ k, k < w.heap.size → k ≠ g → w'.heap[k]? = w.heap[k]? := by
  have eg : ∀ args w, (callFunc 101 args).run Tryz.prog w = .ok (.enter 101 args) w := enters_of Tryz.func101 (by kernel_rfl) rfl
  have hcon := AnyQ.slices_SortFunc shs.sortM 5 Tryz.isAgg48 Tryz.sizeOf48 flM.c (fun _ => rfl) (fun x v hv => by simp [flM.c] at hv; rcases hv with rfl | rfl | rfl | rfl | rfl <;> rfl) cmpM swo 101 #[] g 0 cap l.toArray w eg (lays g 0 l.toArray.size w) (holds ho) (ho.lt g rfl).2 (by simp; omega)
  refine Calls.mono hcon ?_
  rintro e w' ⟨he, d', n, os, hp, hs, hw⟩
  refine ⟨he, d'.toList, ?_, ?_, ?_, ?_, ?_⟩
  · have h2 := hp.2.2
    have h1 : d'.size = l.toArray.size := hp.1
    have h3 : d'.toList.length = l.length := by simpa using h1
    have h4 : (List.take l.length d'.toList).Perm l := by simpa using h2
    rw [← h3, List.take_length] at h4
    exact h4
  · intro i j a b hij ha hb
    have h1 : d'.size = l.toArray.size := hp.1
    obtain ⟨li, ea⟩ := List.getElem?_eq_some_iff.1 ha
    obtain ⟨lj, eb⟩ := List.getElem?_eq_some_iff.1 hb
    have li' : i < d'.size := by simpa using li
    have lj' : j < d'.size := by simpa using lj
    have h3 := hs i j (Nat.zero_le _) hij (by omega)
    rw [lt_msg, getElem!_pos d' j lj', getElem!_pos d' i li'] at h3
    have ea' : d'[i] = a := by simpa using ea
    have eb' : d'[j] = b := by simpa using eb
    rw [ea', eb'] at h3
    have := of_decide_eq_false h3
    omega
  · rw [hw]
    exact row_holds (lt_sortWorldK _ _ _ _ _ _ _ _ (ho.lt g rfl).2) (holdsK_sortWorldK _ _ _ _ _ _ _ _ _ (ho.lt g rfl).2 (holds ho) (by simpa using hp.1))
  · rw [hw]
    exact ⟨rfl, rfl, rfl, size_sortWorldK_c _ _ _ _ _ _ _ _, fun k hk => by omega⟩
  · intro k hk hne
    rw [hw]
    unfold sortWorldK grow putRowK putRow mapBlock Sort.ahead
    simp only
    rw [Array.getElem?_append_left (by simpa using hk), Array.getElem?_modify, if_neg (Ne.symm hne)]
end Go.Proofs.YtpkljkahdclcgaaGreat.qs

/- append(s, make(S, n)...) where it must grow: a new row with s's cells, then zero values. -/
namespace Go.Proofs.YtpkljkahdclcgaaGreat.az
open Go.RowKit
set_option linter.unusedVariables false

theorem wrap_nat {n : Nat} (h : (n : Int) ≤ 9223372036854775807) : IntKind.i64.wrap (n : Int) = (n : Int) := by
  have h0 : (0 : Int) ≤ (n : Int) := by omega
  generalize (n : Int) = m at *
  simp [IntKind.wrap, IntKind.signed, IntKind.bits]
  omega
theorem run_append_zeros {P : Program} (w : World) (t u ty e : TypeId) (i : TypeInfo) (z : Value) (ht : P.underlying t = some (.slice e)) (hu : P.underlying u = some (.int .i64)) (hi : P.info? e = some i) (hz : i.zero = some z)
    (b : Addr) (sLen sCap : Nat) (olds : List Value) (hlo : olds.length = sLen * i.size) (holds : ∀ j v, olds[j]? = some v → w.cell? (b.add j) = some v)
    (n : Nat) (hn0 : n * i.size ≠ 0) (hg : sCap < sLen + n) (h63 : ((sLen + n : Nat) : Int) ≤ 9223372036854775807) (hby : ((n : Int) * (i.bytes : Int)) ≤ 281474976710656) (hfit : Builtin.nextslicecap (sLen + n) sCap * i.bytes ≤ 281474976710656) :
    (Builtin.append_ #[t, u] ty #[.slice (some b) sLen sCap, .int .i64 n]).run P w =
      .ok (.slice (some ⟨w.heap.size, 0, none⟩) (sLen + n) (grownCap w (sLen + n) sCap e))
        (w.drew.alloc (.cells (olds.toArray ++ Builtin.zeroCells z.cells n ++ Builtin.zeroCells z.cells (grownCap w (sLen + n) sCap e - (sLen + n))) e)) := by
  have hn : ¬ (sLen + n ≤ sCap) := by omega
  have h63' : ¬ (9223372036854775807 < ((sLen : Int) + (n : Int))) := by omega
  have h48' : ¬ (281474976710656 < Builtin.nextslicecap (sLen + n) sCap * i.bytes) := by omega
  have hby' : ¬ (281474976710656 < ((n : Int) * (i.bytes : Int))) := by omega
  have hw := wrap_nat (n := n) (by omega)
  have hn1 : ¬ ((n : Int) < 0) := by omega
  have hfo := run_firstCells_some (P := P) w.drew i.size sLen b sLen sCap olds hlo (by simpa using holds)
  simp [Builtin.append_, run_underlying ht, run_underlying hu, sizeOf, typeInfo, zeroValue, hi, hz, asInt, asIntOf, hw, hn, hn1, hby', h63', h48', hn0, Question.forced, hfo, newRow, grownCap]
end Go.Proofs.YtpkljkahdclcgaaGreat.az
