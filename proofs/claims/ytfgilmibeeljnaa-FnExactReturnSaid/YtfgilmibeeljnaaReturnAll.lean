/- The law FnExactReturn holds: at every queue, every owner, tag and either bool that the law admits, of any memory, the program Return answers as the specification (which is Return of the document, chapter 5), writes into nothing of them, and its answer owns its memory, behind another call too; no condition of my own. -/
import Derived.Test.YtfgilmibeeljnaaQDropPure
import Derived.Test.YtfgilmibeeljnaaQPushImpl
import Derived.Test.YtfgilmibeeljnaaThreeAppS
import Derived.Test.YtfgilmibeeljnaaQTakeSpec
import Derived.Deep.QuietTactic
import Derived.BigQuiet
import Derived.Test.YtfgilmibeeljnaaQDropSpec
import Derived.Test.YtfgilmibeeljnaaQDropImpl
import Derived.Test.YtfgilmibeeljnaaQueueLib
import Derived.Test.YtfgilmibeeljnaaQueueMarks
import Derived.Test.YtfgilmibeeljnaaQHeldN
import Derived.Test.YtfgilmibeeljnaaQueueArg
import Derived.WalkKit
import Derived.ProofKit
import Derived.OpenShut
import Derived.ShutString
import Derived.Below
import Derived.OpenVars

/- Messages put back in their places: ascending, and the same as all of them sorted. -/
namespace Go.Proofs.Ytfgilmibeeljnaa.qbk
open Go.ChangeShapes Go.WideShapes Go.ChangeAt Go.RowKit Go.Proofs.Ytfgilmibeeljnaa.fl Go.Proofs.Ytfgilmibeeljnaa.qsp Go.Proofs.Ytfgilmibeeljnaa.qdp
set_option linter.unusedVariables false

def again (h : flH.Hd) : flM.Ms := ⟨h.m.q, h.m.x, h.m.k, h.m.b, true⟩
/-- where a message goes -/
def at_ (l : List flM.Ms) (q : Int) : Nat := (l.takeWhile fun e => decide (e.q < q)).length
def back (l : List flM.Ms) (m : flM.Ms) : List flM.Ms := l.take (at_ l m.q) ++ [m] ++ l.drop (at_ l m.q)
def backs (l : List flM.Ms) (hs : List flH.Hd) : List flM.Ms := hs.foldl (fun l h => back l (again h)) l
theorem at_le (l : List flM.Ms) (q : Int) : at_ l q ≤ l.length := by unfold at_; exact (List.takeWhile_sublist _).length_le
theorem back_len (l : List flM.Ms) (m : flM.Ms) : (back l m).length = l.length + 1 := by
  have := at_le l m.q
  simp [back]
  omega
theorem back_perm (l : List flM.Ms) (m : flM.Ms) : (back l m).Perm (l ++ [m]) := by
  unfold back
  rw [List.append_assoc]
  refine (List.Perm.append_left _ List.perm_append_comm).trans ?_
  rw [← List.append_assoc, List.take_append_drop]
theorem backs_snoc (l : List flM.Ms) (hs : List flH.Hd) (h : flH.Hd) : backs l (hs ++ [h]) = back (backs l hs) (again h) := by unfold backs; rw [List.foldl_append]; rfl
theorem backs_perm (l : List flM.Ms) (hs : List flH.Hd) : (backs l hs).Perm (l ++ hs.map again) := by
  induction hs generalizing l with
  | nil => simp [backs]
  | cons h t ih =>
    have e : backs l (h :: t) = backs (back l (again h)) t := rfl
    rw [e]
    refine (ih _).trans ?_
    have e2 : l ++ (h :: t).map again = (l ++ [again h]) ++ t.map again := by simp
    rw [e2]
    exact (back_perm l (again h)).append_right _
theorem backs_len (l : List flM.Ms) (hs : List flH.Hd) : (backs l hs).length = l.length + hs.length := by rw [(backs_perm l hs).length_eq]; simp
theorem at_lt {l : List flM.Ms} {q : Int} {k : Nat} (hk : k < at_ l q) : ∃ e, l[k]? = some e ∧ e.q < q := by
  induction l generalizing k with
  | nil => simp [at_] at hk
  | cons a l ih =>
    by_cases ha : a.q < q
    · cases k with
      | zero => exact ⟨a, rfl, ha⟩
      | succ k =>
        have : at_ (a :: l) q = at_ l q + 1 := by simp [at_, ha]
        obtain ⟨e, h1, h2⟩ := ih (k := k) (by omega)
        exact ⟨e, by simpa using h1, h2⟩
    · have : at_ (a :: l) q = 0 := by simp [at_, ha]
      omega
theorem at_not {l : List flM.Ms} {q : Int} {e : flM.Ms} (he : l[at_ l q]? = some e) : ¬ e.q < q := by
  induction l with
  | nil => simp at he
  | cons a l ih =>
    by_cases ha : a.q < q
    · have h1 : at_ (a :: l) q = at_ l q + 1 := by simp [at_, ha]
      rw [h1] at he
      exact ih (by simpa using he)
    · have h1 : at_ (a :: l) q = 0 := by simp [at_, ha]
      rw [h1] at he
      simp at he
      subst he
      exact ha
/-- the walk of l05Back: a place is the one where the first k are less and the next is not -/
theorem at_of {l : List flM.Ms} {q : Int} {k : Nat} (h1 : ∀ i e, i < k → l[i]? = some e → e.q < q) (h2 : ∀ e, l[k]? = some e → ¬ e.q < q) (hk : k ≤ l.length) : at_ l q = k := by
  rcases Nat.lt_trichotomy (at_ l q) k with h | h | h
  · have hlt : at_ l q < l.length := by omega
    exact absurd (h1 _ _ h (List.getElem?_eq_getElem hlt)) (at_not (List.getElem?_eq_getElem hlt))
  · exact h
  · obtain ⟨e, h3, h4⟩ := at_lt h
    exact absurd h4 (h2 e h3)
def Up (l : List flM.Ms) : Prop := l.Pairwise fun a b => a.q < b.q
theorem back_up {l : List flM.Ms} {m : flM.Ms} (hl : Up l) (hm : ∀ e ∈ l, e.q ≠ m.q) : Up (back l m) := by
  have hsplit : l.take (at_ l m.q) ++ l.drop (at_ l m.q) = l := List.take_append_drop _ _
  have hl2 := hl
  unfold Up at hl2
  rw [← hsplit, List.pairwise_append] at hl2
  obtain ⟨ha, hb, hab⟩ := hl2
  have h1 : ∀ e ∈ l.take (at_ l m.q), e.q < m.q := fun e he => by
    obtain ⟨i, hi⟩ := List.mem_iff_getElem?.1 he
    have hlt := (List.getElem?_eq_some_iff.1 hi).1
    rw [List.length_take] at hlt
    obtain ⟨e', h3, h4⟩ := at_lt (l := l) (q := m.q) (k := i) (by omega)
    rw [List.getElem?_take_of_lt (by omega), h3] at hi
    cases hi
    exact h4
  have h2 : ∀ e ∈ l.drop (at_ l m.q), m.q < e.q := fun e he => by
    have hge : ¬ e.q < m.q := by
      cases hd : l.drop (at_ l m.q) with
      | nil => rw [hd] at he; cases he
      | cons f t =>
        have hf : l[at_ l m.q]? = some f := by
          have := congrArg (fun x => x[0]?) hd
          simpa using this
        have hfn := at_not hf
        rw [hd] at he
        rcases List.mem_cons.1 he with rfl | he
        · exact hfn
        · rw [hd] at hb
          have := (List.pairwise_cons.1 hb).1 e he
          omega
    have := hm e (List.mem_of_mem_drop he)
    omega
  unfold Up back
  rw [List.append_assoc, List.pairwise_append]
  refine ⟨ha, List.pairwise_append.2 ⟨List.pairwise_singleton _ _, hb, fun a ha b hb => by rw [List.mem_singleton] at ha; subst ha; exact h2 b hb⟩, fun a ha b hb => ?_⟩
  rcases List.mem_append.1 hb with hb | hb
  · rw [List.mem_singleton] at hb; subst hb; exact h1 a ha
  · exact hab a ha b hb
theorem backs_up {l : List flM.Ms} {hs : List flH.Hd} (hl : Up l) (hd : ∀ h ∈ hs, ∀ e ∈ l, e.q ≠ h.m.q) (hp : hs.Pairwise fun a b => a.m.q ≠ b.m.q) : Up (backs l hs) := by
  induction hs generalizing l with
  | nil => exact hl
  | cons h t ih =>
    obtain ⟨hp1, hp2⟩ := List.pairwise_cons.1 hp
    have e : backs l (h :: t) = backs (back l (again h)) t := rfl
    rw [e]
    refine ih (back_up hl (fun e he => hd h (List.mem_cons_self ..) e he)) (fun h' hh' e he => ?_) hp2
    rcases List.mem_append.1 ((back_perm l (again h)).mem_iff.1 he) with he | he
    · exact hd h' (List.mem_cons_of_mem _ hh') e he
    · rw [List.mem_singleton] at he
      subst he
      exact hp1 h' hh'
theorem up_of {l : List flM.Ms} (ha : ∀ (i : Nat) (a c : flM.Ms), l[i]? = some a → l[i + 1]? = some c → a.q < c.q) : Up l := List.pairwise_iff_getElem.2 fun i j hi hj hij => by
  have := qop.asc_lt ha (j - i - 1) i l[i] l[j] (List.getElem?_eq_getElem hi) (by rw [show i + (j - i - 1) + 1 = j by omega]; exact List.getElem?_eq_getElem hj)
  exact this
theorem of_up {l : List flM.Ms} (h : Up l) : ∀ (i : Nat) (a c : flM.Ms), l[i]? = some a → l[i + 1]? = some c → a.q < c.q := fun i a c ha hc => by
  have h1 := (List.getElem?_eq_some_iff.1 ha)
  have h2 := (List.getElem?_eq_some_iff.1 hc)
  obtain ⟨h3, rfl⟩ := h1
  obtain ⟨h4, rfl⟩ := h2
  exact List.pairwise_iff_getElem.1 h i (i + 1) h3 h4 (Nat.lt_succ_self i)
/-- of a queue that is right -/
theorem ok_up {nm : ByteArray} {nx : Int} {es : List flM.Ms} {ms : List flH.Hd} (hok : qk.OkQ nm nx es ms) (o t : Int) (a : Bool) : Up (backs es (gone o t a ms)) := by
  refine backs_up (up_of hok.ru) (fun h hh e he => ?_) ?_
  · obtain ⟨i, hi⟩ := List.mem_iff_getElem?.1 (List.mem_filter.1 hh).1
    obtain ⟨k, hk⟩ := List.mem_iff_getElem?.1 he
    exact hok.d1 i k e h hk hi
  · refine List.Pairwise.sublist List.filter_sublist ?_
    exact List.pairwise_iff_getElem.2 fun i j hi hj hij => hok.d2 j i _ _ hij (List.getElem?_eq_getElem hi) (List.getElem?_eq_getElem hj)
noncomputable def ansR (nm : ByteArray) (nx : Int) (rs : List flM.Ms) (hs : List flH.Hd) (o t : Int) (a : Bool) : List flM.Ms := if okB nm nx rs hs = true then backs rs (gone o t a hs) else rs
theorem ansR_le (nm : ByteArray) (nx : Int) (rs : List flM.Ms) (hs : List flH.Hd) (o t : Int) (a : Bool) : (ansR nm nx rs hs o t a).length ≤ rs.length ∨ (ansR nm nx rs hs o t a).length ≤ 500 := by
  unfold ansR
  split
  · rename_i hob
    have hl := (okB_true.1 hob).ln
    have := gone_le o t a hs
    rw [backs_len]
    omega
  · omega
end Go.Proofs.Ytfgilmibeeljnaa.qbk

/- The specification's l05Back: messages with one more in its place. -/
namespace Go.Proofs.Ytfgilmibeeljnaa.qbs
open Go.ChangeShapes Go.WideShapes Go.ChangeAt Go.RowKit Go.Proofs.Ytfgilmibeeljnaa.fl Go.Proofs.Ytfgilmibeeljnaa.qbk
set_option linter.unusedVariables false

theorem box5 {W : World} {b : Nat} {x0 x1 x2 x3 x4 : Value} {U : TypeId} (h : W.heap[b]? = some (.cells #[x0, x1, x2, x3, x4] U (0, 0))) : W.cell? ⟨b, 0, none⟩ = some x0 ∧ W.cell? ⟨b, 1, none⟩ = some x1 ∧ W.cell? ⟨b, 2, none⟩ = some x2 ∧ W.cell? ⟨b, 3, none⟩ = some x3 ∧ W.cell? ⟨b, 4, none⟩ = some x4 := ⟨bcell h rfl, bcell h rfl, bcell h rfl, bcell h rfl, bcell h rfl⟩
theorem take_drop_flat (l : List flM.Ms) (k : Nat) : l.flatMap flM.c = (l.take k).flatMap flM.c ++ (l.drop k).flatMap flM.c := by rw [← List.flatMap_append, List.take_append_drop]
theorem news_take {w : World} {B g : Nat} {l : List flM.Ms} (h : Row flM.c 5 w B (some ⟨g, 0, none⟩) l) (k : Nat) : ∀ (j : Nat) (u : Value), ((l.take k).flatMap flM.c)[j]? = some u → w.cell? ((⟨g, 0, none⟩ : Addr).add j) = some u := fun j u hu => by
  refine qsp.newsR flM.c_len h j u ?_
  rw [take_drop_flat l k, List.getElem?_append_left (List.getElem?_eq_some_iff.1 hu).1]
  exact hu
theorem news_drop {w : World} {B g : Nat} {l : List flM.Ms} (h : Row flM.c 5 w B (some ⟨g, 0, none⟩) l) (k : Nat) (hk : k ≤ l.length) : ∀ (j : Nat) (u : Value), ((l.drop k).flatMap flM.c)[j]? = some u → w.cell? ((⟨g, k * 5, none⟩ : Addr).add j) = some u := fun j u hu => by
  have hlen : ((l.take k).flatMap flM.c).length = k * 5 := by rw [flat_len flM.c_len, List.length_take, Nat.min_eq_left hk]
  have hh := qsp.newsR flM.c_len h (k * 5 + j) u (by rw [take_drop_flat l k, List.getElem?_append_right (by omega), hlen, show k * 5 + j - k * 5 = j by omega]; exact hu)
  rw [qsp.add_at] at hh ⊢
  rwa [Nat.zero_add] at hh
theorem row_cell {w : World} {B g k : Nat} {l : List flM.Ms} {e : flM.Ms} (h : Row flM.c 5 w B (some ⟨g, 0, none⟩) l) (he : l[k]? = some e) : w.cell? ⟨g, k * 5, none⟩ = some (.int .i64 e.q) := by
  rcases h with h0 | ⟨b', off', hh, hlt, hc⟩
  · rw [h0] at he; simp at he
  · cases hh
    have := hc k _ he 0 _ rfl
    simpa using this
theorem back_at {l : List flM.Ms} {m : flM.Ms} {k : Nat} (h : at_ l m.q = k) : back l m = l.take k ++ [m] ++ l.drop k := by subst h; rfl
def ws (g n c k o m' cc : Nat) (m : flM.Ms) (s : tas.G) : List (Nat × Value) := [(22, .slice (some ⟨s.e0, 0, none⟩) 0 0), (23, .slice (some ⟨g, 0, none⟩) n c), (24, .int .i64 k), (25, .slice (some ⟨g, 0, none⟩) k c), (26, s.v1), (27, .agg #[.int .i64 m.q, .string m.x, .string m.k, .string m.b, .bool m.a]), (28, .slice (some ⟨s.h, 0, none⟩) 1 1), (29, s.v2), (30, .slice (some ⟨g, 0, none⟩) n c), (31, .int .i64 k), (32, .slice (some ⟨g, o, none⟩) m' cc), (33, s.v3), (4, s.v4)]
def J0 : tas.J := ⟨0, 4, 6, 7, 11, 12⟩
theorem J0_up : J0.up := ⟨by decide, by decide, by decide, by decide, by decide⟩


set_option maxRecDepth 100000 in
set_option maxHeartbeats 4000000 in
theorem spec_back (l : List flM.Ms) (g c : Nat) (m : flM.Ms) (w : World) (hl : l.length ≤ 1048576) (hlc : l.length ≤ c) (hS : Row flM.c 5 w w.heap.size (some ⟨g, 0, none⟩) l) :
    Calls Try.prog 47 #[.slice (some ⟨g, 0, none⟩) l.length c, .agg #[.int .i64 m.q, .string m.x, .string m.k, .string m.b, .bool m.a]] w fun e w' => ∃ g2 c2, e = .returned (.slice (some ⟨g2, 0, none⟩) (back l m).length c2) ∧ w'.ownsRow w.heap.size 38 5 (.slice (some ⟨g2, 0, none⟩) (back l m).length c2) (back l m).length ((back l m).flatMap flM.c) ∧ Below w.heap.size w w' := by
  obtain ⟨i0, hi, hz0, hz1, hz2⟩ := qsp.infoY
  have HS : Hid (Row flM.c 5 w w.heap.size (some ⟨g, 0, none⟩) l) := hS
  have hal : Below w.heap.size w (w.alloc (.cells #[.int .i64 m.q, .string m.x, .string m.k, .string m.b, .bool m.a] 38)) := (Below.refl _ _).alloc (Nat.le_refl _) _
  have hA := bnew w #[.int .i64 m.q, .string m.x, .string m.k, .string m.b, .bool m.a] 38
  obtain ⟨V, hV⟩ : ∃ V, w.alloc (.cells #[.int .i64 m.q, .string m.x, .string m.k, .string m.b, .bool m.a] 38) = V := ⟨_, rfl⟩
  rw [hV] at hal hA
  have HA : Hid (V.heap[w.heap.size]? = some (.cells #[.int .i64 m.q, .string m.x, .string m.k, .string m.b, .bool m.a] 38 (0, 0))) := hA
  have hVs : w.heap.size < V.heap.size := (Array.getElem?_eq_some_iff.1 hA).1
  clear hS hA
  go_enter Try.func47, Try.ntmps47
  go_wp2
  clear hV
  go_loopw [5] (fun v wr => ∃ k : Nat, k ≤ l.length ∧ v = .int .i64 k ∧ Hid (∀ (i : Nat) a, i < k → l[i]? = some a → a.q < m.q) ∧ Hid (Below V.heap.size V wr)) (fun v _ => l.length - (intOf v).toNat)
  case atStart => exact ⟨0, Nat.zero_le _, rfl, fun i a h => by omega, Below.refl _ _⟩
  case round =>
    obtain ⟨k, hk, rfl, hn, hBV⟩ := hrel
    have hB : Hid (Below w.heap.size w wr) := hal.trans (hBV.out.mono hal.size)
    have HSr : Hid (Row flM.c 5 wr wr.heap.size (some ⟨g, 0, none⟩) l) := HS.out.inn hB.out
    have HBX : Hid (wr.heap[w.heap.size]? = some (.cells #[.int .i64 m.q, .string m.x, .string m.k, .string m.b, .bool m.a] 38 (0, 0))) := bstay HA.out hBV.out hVs
    have b0 : wr.cell? ⟨w.heap.size, 0, none⟩ = some (.int .i64 m.q) := bcell HBX.out rfl
    have r9 : k ≤ c := by omega
    by_cases hkl : k < l.length
    · have f0 : decide ((k : Int) < (l.length : Int)) = true := by simp; omega
      have HG : Hid (l[k]? = some l[k]) := List.getElem?_eq_getElem hkl
      obtain ⟨mk, he⟩ : ∃ e, l[k] = e := ⟨_, rfl⟩
      rw [he] at HG
      have a0 : wr.cell? ⟨g, k * 5, none⟩ = some (.int .i64 mk.q) := row_cell HSr.out HG.out
      have i2 : (k : Int) < (l.length : Int) := by omega
      clear he
      by_cases hq : mk.q < m.q
      · have hq1 : decide (mk.q < m.q) = true := by simpa using hq
        have hn2 : Hid (∀ (i : Nat) a, i < k + 1 → l[i]? = some a → a.q < m.q) := fun i a hi ha => by
          by_cases ei : i = k
          · subst ei; rw [HG.out] at ha; cases ha; exact hq
          · exact hn.out i a (by omega) ha
        go_wp2
        go_quiet (fail)
        have hBV2 : Hid (Below V.heap.size V (wr.drewN nq)) := qts.bdrewN hBV.out _
        go_wp2
        go_roundw
        case rel => exact ⟨k + 1, by omega, by go_num, hn2, hBV2⟩
        case measure => simp [intOf]; omega
      · have hq1 : decide (mk.q < m.q) = false := by simpa using hq
        have HPT : Hid (back l m = l.take k ++ [m] ++ l.drop k) := back_at (at_of hn.out (fun e he => by rw [HG.out] at he; cases he; exact hq) hk)
        have r4 : ¬ c = k := by omega
        have r10 : k ≤ l.length := by omega
        have HRL : Hid ((l.drop k).length = l.length - k) := by show (l.drop k).length = l.length - k; simp
        go_wp2
        go_quiet (fail)
        obtain ⟨X, hX⟩ : ∃ X, wr.drewN nq = X := ⟨_, rfl⟩
        have hWX : Below wr.heap.size wr X := by rw [← hX]; exact qts.bdrewN (Below.refl _ _) _
        rw [hX]
        have hBX : Hid (Below w.heap.size w X) := hB.out.trans (hWX.mono hB.out.size)
        have HSX : Hid (Row flM.c 5 X X.heap.size (some ⟨g, 0, none⟩) l) := HSr.out.inn hWX
        have HBY : Hid (X.heap[w.heap.size]? = some (.cells #[.int .i64 m.q, .string m.x, .string m.k, .string m.b, .bool m.a] 38 (0, 0))) := bstay HBX.out hWX (Array.getElem?_eq_some_iff.1 HBX.out).1
        clear hX
        go_wp2
        refine dk.region_gsets (ws g l.length c (k) (k * 5) (l.length - k) (c - k) m) [22, 23, 24, 25, 26, 27, 28, 29, 30, 31, 32, 33, 4] (tas.C ⟨X, 38, 5, (l.take k).flatMap flM.c, [.int .i64 m.q, .string m.x, .string m.k, .string m.b, .bool m.a], (l.drop k).flatMap flM.c, k, l.length - k⟩ J0) ⟨0, .slice none 0 0, 0, .slice none 0 0, .slice none 0 0, .slice none 0 0⟩ (by kernel_rfl) (by kernel_rfl) (fun _ => rfl) (by kernel_rfl) (tas.start _ _ _) ?each ?fin
        case each =>
          refine ⟨tas.st0 (x := J0) (d := 22) (idx := 0) J0_up (by simp) rfl (by simp) (fun g => rfl) (fun g => rfl) (fun g e => rfl) (fun s W => by simp [execOp, go_sem]), ?_⟩
          refine ⟨tas.quiet (by decide) (by simp) (.slice (some ⟨g, 0, none⟩) l.length c) (by rintro s _ ⟨⟩; exact dk.sets_on _ (by simp) _ rfl) (fun s W h => by simp [execOp, go_sem, Act.eval, dk.sets_get, ws, List.lookup]), ?_⟩
          refine ⟨tas.quiet (by decide) (by simp) (.int .i64 (k : Nat)) (by rintro s _ ⟨⟩; exact dk.sets_on _ (by simp) _ rfl) (fun s W h => by simp [execOp, go_sem, Act.eval, dk.sets_get, ws, List.lookup]), ?_⟩
          refine ⟨tas.quiet (by decide) (by simp) (.slice (some ⟨g, 0, none⟩) (k) c) (by rintro s _ ⟨⟩; exact dk.sets_on _ (by simp) _ rfl) (fun s W h => by simp [execOp, go_sem, Act.eval, dk.sets_get, ws, List.lookup, r9]), ?_⟩
          refine ⟨tas.st1 (x := J0) (d := 26) (s1 := 22) (s2 := 25) (idx := 4) (c := c) (a := ⟨g, 0, none⟩) J0_up Try.underlying27 hi hz0 hz1 hz2 rfl (by show 0 < 5; decide) rfl rfl ⟨by simp, by simp, by simp⟩ (fun g => rfl) (fun g => rfl) (fun g => rfl) (fun g => rfl) (fun g v => rfl) (by show ((l.take k).flatMap flM.c).length = (k) * 5; rw [flat_len flM.c_len, List.length_take, Nat.min_eq_left (by omega)]) (fun W hb => news_take (HSX.out.inn hb) (k)) (qsp.oneY _) (by show k ≤ 1048576; omega) (by show (0 + k) * 64 ≤ 140737488355328; omega) ⟨⟨0, .data⟩, by simp, rfl, rfl⟩, ?_⟩
          refine ⟨tas.quiet (by decide) (by simp) (.agg #[.int .i64 m.q, .string m.x, .string m.k, .string m.b, .bool m.a]) (by rintro s _ ⟨⟩; exact dk.sets_on _ (by simp) _ rfl) (fun s W h => by obtain ⟨d0, d1, d2, d3, d4⟩ := box5 (h _ _ HBY.out); simp [execOp, go_sem, Act.eval, dk.sets_get, ws, List.lookup, d0, d1, d2, d3, d4]), ?_⟩
          refine ⟨tas.st2 (x := J0) (d := 28) (idx := 6) J0_up (by simp) rfl (by simp) (fun g => rfl) (fun g => rfl) (fun g e => rfl) (fun s W => by simp [execOp, go_sem, Act.eval, dk.sets_get, ws, List.lookup]), ?_⟩
          refine ⟨tas.st3 (x := J0) (d := 29) (s1 := 26) (s2 := 28) (idx := 7) J0_up Try.underlying27 hi hz0 hz1 hz2 rfl (by show 0 < 5; decide) rfl rfl ⟨by simp, by simp, by simp⟩ (fun g => rfl) (fun g => rfl) (fun g => rfl) (fun g => rfl) (fun g v => rfl) rfl (by intro u hu; simp at hu; rcases hu with rfl | rfl | rfl | rfl | rfl <;> rfl) (by show k ≤ 1048576; omega) (by show (k + 1) * 64 ≤ 140737488355328; omega) ⟨⟨4, .data⟩, by simp, rfl, rfl⟩ ⟨⟨6, .data⟩, by simp, rfl, rfl⟩, ?_⟩
          refine ⟨tas.quiet (by decide) (by simp) (.slice (some ⟨g, 0, none⟩) l.length c) (by rintro s _ ⟨⟩; exact dk.sets_on _ (by simp) _ rfl) (fun s W h => by simp [execOp, go_sem, Act.eval, dk.sets_get, ws, List.lookup]), ?_⟩
          refine ⟨tas.quiet (by decide) (by simp) (.int .i64 (k : Nat)) (by rintro s _ ⟨⟩; exact dk.sets_on _ (by simp) _ rfl) (fun s W h => by simp [execOp, go_sem, Act.eval, dk.sets_get, ws, List.lookup]), ?_⟩
          refine ⟨tas.quiet (by decide) (by simp) (.slice (some ⟨g, k * 5, none⟩) (l.length - k) (c - k)) (by rintro s _ ⟨⟩; exact dk.sets_on _ (by simp) _ rfl) (fun s W h => by simp [execOp, go_sem, Act.eval, dk.sets_get, ws, List.lookup, r4, r10]), ?_⟩
          refine ⟨tas.st4 (x := J0) (d := 33) (s1 := 29) (s2 := 32) (idx := 11) (c := c - k) (a := ⟨g, k * 5, none⟩) J0_up Try.underlying27 hi hz0 hz1 hz2 rfl (by show 0 < 5; decide) rfl rfl ⟨by simp, by simp, by simp⟩ (fun g => rfl) (fun g => rfl) (fun g => rfl) (fun g => rfl) (fun g v => rfl) (by show ((l.drop k).flatMap flM.c).length = (l.length - k) * 5; rw [flat_len flM.c_len, HRL.out]) (fun W hb => news_drop (HSX.out.inn hb) k (by omega)) (qsp.oneY _) (by show k ≤ 1048576 ∧ l.length - k ≤ 1048576; omega) (by show (k + 1 + (l.length - k)) * 64 ≤ 140737488355328; omega) ⟨⟨7, .data⟩, by simp, rfl, rfl⟩, ?_⟩
          exact ⟨tas.st5 (x := J0) (d := 4) (s1 := 33) (idx := 12) J0_up rfl rfl ⟨by simp, by simp⟩ (fun g => rfl) (fun g => rfl) (fun g => rfl) (fun g v => rfl) ⟨⟨11, .data⟩, by simp, rfl, rfl⟩, trivial⟩
        case fin =>
          intro s L X3 hL hC
          obtain ⟨hbl, hv4, hown⟩ := tas.done hC J0_up (N := 13) (by decide) hL
          replace hbl : Below X.heap.size X X3 := hbl
          replace hown : X3.ownsRow X.heap.size 38 5 s.v3 (k + 1 + (l.length - k)) ((l.take k).flatMap flM.c ++ [.int .i64 m.q, .string m.x, .string m.k, .string m.b, .bool m.a] ++ (l.drop k).flatMap flM.c) := hown
          have hlen : k + 1 + (l.length - k) = (back l m).length := by have := back_len l m; omega
          have hfl : (l.take k).flatMap flM.c ++ [.int .i64 m.q, .string m.x, .string m.k, .string m.b, .bool m.a] ++ (l.drop k).flatMap flM.c = (back l m).flatMap flM.c := by rw [HPT.out]; simp [flM.c]
          rw [hlen, hfl] at hown
          obtain ⟨g5, c5, hv3⟩ : ∃ g5 c5, s.v3 = .slice (some ⟨g5, 0, none⟩) (back l m).length c5 := by
            obtain ⟨_, ⟨_, h0⟩ | ⟨g6, cap, cur, e, _⟩⟩ := hown
            · omega
            · exact ⟨g6, cap, e⟩
          rw [hv3] at hown hv4
          have HOW : Hid (X3.ownsRow w.heap.size 38 5 (.slice (some ⟨g5, 0, none⟩) (back l m).length c5) (back l m).length ((back l m).flatMap flM.c)) := qsp.own_low hown hBX.out.size
          have HBL : Hid (Below X.heap.size X X3) := hbl
          have HV4 : Hid (s.v4 = .slice (some ⟨g5, 0, none⟩) (back l m).length c5) := hv4
          clear hC hL hbl hown hlen hfl hv3 hv4
          go_wp2
          refine bodyPost_ret (v := .slice (some ⟨g5, 0, none⟩) (back l m).length c5) (by simp [results, Try.results47, go_sem, dk.sets_get, ws, List.lookup, HV4.out]) rfl ?_
          exact ⟨g5, c5, rfl, HOW.out, hBX.out.trans (HBL.out.mono hBX.out.size)⟩
    · obtain rfl : k = l.length := by omega
      have HPT : Hid (back l m = l.take l.length ++ [m] ++ l.drop l.length) := back_at (at_of hn.out (fun e he => by simp at he) hk)
      have f0 : decide ((l.length : Int) < (l.length : Int)) = false := by simp
      by_cases hck : c = l.length
      · have r4 := hck
        have HRL : Hid ((l.drop l.length).length = 0) := by show (l.drop l.length).length = 0; simp
        go_wp2
        go_quiet (fail)
        obtain ⟨X, hX⟩ : ∃ X, wr.drewN nq = X := ⟨_, rfl⟩
        have hWX : Below wr.heap.size wr X := by rw [← hX]; exact qts.bdrewN (Below.refl _ _) _
        rw [hX]
        have hBX : Hid (Below w.heap.size w X) := hB.out.trans (hWX.mono hB.out.size)
        have HSX : Hid (Row flM.c 5 X X.heap.size (some ⟨g, 0, none⟩) l) := HSr.out.inn hWX
        have HBY : Hid (X.heap[w.heap.size]? = some (.cells #[.int .i64 m.q, .string m.x, .string m.k, .string m.b, .bool m.a] 38 (0, 0))) := bstay HBX.out hWX (Array.getElem?_eq_some_iff.1 HBX.out).1
        clear hX
        go_wp2
        refine dk.region_gsets (ws g l.length c (l.length) (0) (0) (0) m) [22, 23, 24, 25, 26, 27, 28, 29, 30, 31, 32, 33, 4] (tas.C ⟨X, 38, 5, (l.take l.length).flatMap flM.c, [.int .i64 m.q, .string m.x, .string m.k, .string m.b, .bool m.a], (l.drop l.length).flatMap flM.c, l.length, 0⟩ J0) ⟨0, .slice none 0 0, 0, .slice none 0 0, .slice none 0 0, .slice none 0 0⟩ (by kernel_rfl) (by kernel_rfl) (fun _ => rfl) (by kernel_rfl) (tas.start _ _ _) ?each ?fin
        case each =>
          refine ⟨tas.st0 (x := J0) (d := 22) (idx := 0) J0_up (by simp) rfl (by simp) (fun g => rfl) (fun g => rfl) (fun g e => rfl) (fun s W => by simp [execOp, go_sem]), ?_⟩
          refine ⟨tas.quiet (by decide) (by simp) (.slice (some ⟨g, 0, none⟩) l.length c) (by rintro s _ ⟨⟩; exact dk.sets_on _ (by simp) _ rfl) (fun s W h => by simp [execOp, go_sem, Act.eval, dk.sets_get, ws, List.lookup]), ?_⟩
          refine ⟨tas.quiet (by decide) (by simp) (.int .i64 (l.length : Nat)) (by rintro s _ ⟨⟩; exact dk.sets_on _ (by simp) _ rfl) (fun s W h => by simp [execOp, go_sem, Act.eval, dk.sets_get, ws, List.lookup]), ?_⟩
          refine ⟨tas.quiet (by decide) (by simp) (.slice (some ⟨g, 0, none⟩) (l.length) c) (by rintro s _ ⟨⟩; exact dk.sets_on _ (by simp) _ rfl) (fun s W h => by simp [execOp, go_sem, Act.eval, dk.sets_get, ws, List.lookup, r9]), ?_⟩
          refine ⟨tas.st1 (x := J0) (d := 26) (s1 := 22) (s2 := 25) (idx := 4) (c := c) (a := ⟨g, 0, none⟩) J0_up Try.underlying27 hi hz0 hz1 hz2 rfl (by show 0 < 5; decide) rfl rfl ⟨by simp, by simp, by simp⟩ (fun g => rfl) (fun g => rfl) (fun g => rfl) (fun g => rfl) (fun g v => rfl) (by show ((l.take l.length).flatMap flM.c).length = (l.length) * 5; rw [flat_len flM.c_len, List.length_take, Nat.min_eq_left (by omega)]) (fun W hb => news_take (HSX.out.inn hb) (l.length)) (qsp.oneY _) (by show l.length ≤ 1048576; omega) (by show (0 + l.length) * 64 ≤ 140737488355328; omega) ⟨⟨0, .data⟩, by simp, rfl, rfl⟩, ?_⟩
          refine ⟨tas.quiet (by decide) (by simp) (.agg #[.int .i64 m.q, .string m.x, .string m.k, .string m.b, .bool m.a]) (by rintro s _ ⟨⟩; exact dk.sets_on _ (by simp) _ rfl) (fun s W h => by obtain ⟨d0, d1, d2, d3, d4⟩ := box5 (h _ _ HBY.out); simp [execOp, go_sem, Act.eval, dk.sets_get, ws, List.lookup, d0, d1, d2, d3, d4]), ?_⟩
          refine ⟨tas.st2 (x := J0) (d := 28) (idx := 6) J0_up (by simp) rfl (by simp) (fun g => rfl) (fun g => rfl) (fun g e => rfl) (fun s W => by simp [execOp, go_sem, Act.eval, dk.sets_get, ws, List.lookup]), ?_⟩
          refine ⟨tas.st3 (x := J0) (d := 29) (s1 := 26) (s2 := 28) (idx := 7) J0_up Try.underlying27 hi hz0 hz1 hz2 rfl (by show 0 < 5; decide) rfl rfl ⟨by simp, by simp, by simp⟩ (fun g => rfl) (fun g => rfl) (fun g => rfl) (fun g => rfl) (fun g v => rfl) rfl (by intro u hu; simp at hu; rcases hu with rfl | rfl | rfl | rfl | rfl <;> rfl) (by show l.length ≤ 1048576; omega) (by show (l.length + 1) * 64 ≤ 140737488355328; omega) ⟨⟨4, .data⟩, by simp, rfl, rfl⟩ ⟨⟨6, .data⟩, by simp, rfl, rfl⟩, ?_⟩
          refine ⟨tas.quiet (by decide) (by simp) (.slice (some ⟨g, 0, none⟩) l.length c) (by rintro s _ ⟨⟩; exact dk.sets_on _ (by simp) _ rfl) (fun s W h => by simp [execOp, go_sem, Act.eval, dk.sets_get, ws, List.lookup]), ?_⟩
          refine ⟨tas.quiet (by decide) (by simp) (.int .i64 (l.length : Nat)) (by rintro s _ ⟨⟩; exact dk.sets_on _ (by simp) _ rfl) (fun s W h => by simp [execOp, go_sem, Act.eval, dk.sets_get, ws, List.lookup]), ?_⟩
          refine ⟨tas.quiet (by decide) (by simp) (.slice (some ⟨g, 0, none⟩) (0) (0)) (by rintro s _ ⟨⟩; exact dk.sets_on _ (by simp) _ rfl) (fun s W h => by simp [execOp, go_sem, Act.eval, dk.sets_get, ws, List.lookup, r4]), ?_⟩
          refine ⟨tas.st4 (x := J0) (d := 33) (s1 := 29) (s2 := 32) (idx := 11) (c := 0) (a := ⟨g, 0, none⟩) J0_up Try.underlying27 hi hz0 hz1 hz2 rfl (by show 0 < 5; decide) rfl rfl ⟨by simp, by simp, by simp⟩ (fun g => rfl) (fun g => rfl) (fun g => rfl) (fun g => rfl) (fun g v => rfl) (by show ((l.drop l.length).flatMap flM.c).length = (0) * 5; rw [flat_len flM.c_len, HRL.out]) (fun W hb => by rw [List.drop_length]; intro j u hu; simp at hu) (qsp.oneY _) (by show l.length ≤ 1048576 ∧ 0 ≤ 1048576; omega) (by show (l.length + 1 + (0)) * 64 ≤ 140737488355328; omega) ⟨⟨7, .data⟩, by simp, rfl, rfl⟩, ?_⟩
          exact ⟨tas.st5 (x := J0) (d := 4) (s1 := 33) (idx := 12) J0_up rfl rfl ⟨by simp, by simp⟩ (fun g => rfl) (fun g => rfl) (fun g => rfl) (fun g v => rfl) ⟨⟨11, .data⟩, by simp, rfl, rfl⟩, trivial⟩
        case fin =>
          intro s L X3 hL hC
          obtain ⟨hbl, hv4, hown⟩ := tas.done hC J0_up (N := 13) (by decide) hL
          replace hbl : Below X.heap.size X X3 := hbl
          replace hown : X3.ownsRow X.heap.size 38 5 s.v3 (l.length + 1 + (0)) ((l.take l.length).flatMap flM.c ++ [.int .i64 m.q, .string m.x, .string m.k, .string m.b, .bool m.a] ++ (l.drop l.length).flatMap flM.c) := hown
          have hlen : l.length + 1 + (0) = (back l m).length := by have := back_len l m; omega
          have hfl : (l.take l.length).flatMap flM.c ++ [.int .i64 m.q, .string m.x, .string m.k, .string m.b, .bool m.a] ++ (l.drop l.length).flatMap flM.c = (back l m).flatMap flM.c := by rw [HPT.out]; simp [flM.c]
          rw [hlen, hfl] at hown
          obtain ⟨g5, c5, hv3⟩ : ∃ g5 c5, s.v3 = .slice (some ⟨g5, 0, none⟩) (back l m).length c5 := by
            obtain ⟨_, ⟨_, h0⟩ | ⟨g6, cap, cur, e, _⟩⟩ := hown
            · omega
            · exact ⟨g6, cap, e⟩
          rw [hv3] at hown hv4
          have HOW : Hid (X3.ownsRow w.heap.size 38 5 (.slice (some ⟨g5, 0, none⟩) (back l m).length c5) (back l m).length ((back l m).flatMap flM.c)) := qsp.own_low hown hBX.out.size
          have HBL : Hid (Below X.heap.size X X3) := hbl
          have HV4 : Hid (s.v4 = .slice (some ⟨g5, 0, none⟩) (back l m).length c5) := hv4
          clear hC hL hbl hown hlen hfl hv3 hv4
          go_wp2
          refine bodyPost_ret (v := .slice (some ⟨g5, 0, none⟩) (back l m).length c5) (by simp [results, Try.results47, go_sem, dk.sets_get, ws, List.lookup, HV4.out]) rfl ?_
          exact ⟨g5, c5, rfl, HOW.out, hBX.out.trans (HBL.out.mono hBX.out.size)⟩
      · have r4 : ¬ c = l.length := hck
        have HRL : Hid ((l.drop l.length).length = 0) := by show (l.drop l.length).length = 0; simp
        go_wp2
        go_quiet (fail)
        obtain ⟨X, hX⟩ : ∃ X, wr.drewN nq = X := ⟨_, rfl⟩
        have hWX : Below wr.heap.size wr X := by rw [← hX]; exact qts.bdrewN (Below.refl _ _) _
        rw [hX]
        have hBX : Hid (Below w.heap.size w X) := hB.out.trans (hWX.mono hB.out.size)
        have HSX : Hid (Row flM.c 5 X X.heap.size (some ⟨g, 0, none⟩) l) := HSr.out.inn hWX
        have HBY : Hid (X.heap[w.heap.size]? = some (.cells #[.int .i64 m.q, .string m.x, .string m.k, .string m.b, .bool m.a] 38 (0, 0))) := bstay HBX.out hWX (Array.getElem?_eq_some_iff.1 HBX.out).1
        clear hX
        go_wp2
        refine dk.region_gsets (ws g l.length c (l.length) (l.length * 5) (0) (c - l.length) m) [22, 23, 24, 25, 26, 27, 28, 29, 30, 31, 32, 33, 4] (tas.C ⟨X, 38, 5, (l.take l.length).flatMap flM.c, [.int .i64 m.q, .string m.x, .string m.k, .string m.b, .bool m.a], (l.drop l.length).flatMap flM.c, l.length, 0⟩ J0) ⟨0, .slice none 0 0, 0, .slice none 0 0, .slice none 0 0, .slice none 0 0⟩ (by kernel_rfl) (by kernel_rfl) (fun _ => rfl) (by kernel_rfl) (tas.start _ _ _) ?each ?fin
        case each =>
          refine ⟨tas.st0 (x := J0) (d := 22) (idx := 0) J0_up (by simp) rfl (by simp) (fun g => rfl) (fun g => rfl) (fun g e => rfl) (fun s W => by simp [execOp, go_sem]), ?_⟩
          refine ⟨tas.quiet (by decide) (by simp) (.slice (some ⟨g, 0, none⟩) l.length c) (by rintro s _ ⟨⟩; exact dk.sets_on _ (by simp) _ rfl) (fun s W h => by simp [execOp, go_sem, Act.eval, dk.sets_get, ws, List.lookup]), ?_⟩
          refine ⟨tas.quiet (by decide) (by simp) (.int .i64 (l.length : Nat)) (by rintro s _ ⟨⟩; exact dk.sets_on _ (by simp) _ rfl) (fun s W h => by simp [execOp, go_sem, Act.eval, dk.sets_get, ws, List.lookup]), ?_⟩
          refine ⟨tas.quiet (by decide) (by simp) (.slice (some ⟨g, 0, none⟩) (l.length) c) (by rintro s _ ⟨⟩; exact dk.sets_on _ (by simp) _ rfl) (fun s W h => by simp [execOp, go_sem, Act.eval, dk.sets_get, ws, List.lookup, r9]), ?_⟩
          refine ⟨tas.st1 (x := J0) (d := 26) (s1 := 22) (s2 := 25) (idx := 4) (c := c) (a := ⟨g, 0, none⟩) J0_up Try.underlying27 hi hz0 hz1 hz2 rfl (by show 0 < 5; decide) rfl rfl ⟨by simp, by simp, by simp⟩ (fun g => rfl) (fun g => rfl) (fun g => rfl) (fun g => rfl) (fun g v => rfl) (by show ((l.take l.length).flatMap flM.c).length = (l.length) * 5; rw [flat_len flM.c_len, List.length_take, Nat.min_eq_left (by omega)]) (fun W hb => news_take (HSX.out.inn hb) (l.length)) (qsp.oneY _) (by show l.length ≤ 1048576; omega) (by show (0 + l.length) * 64 ≤ 140737488355328; omega) ⟨⟨0, .data⟩, by simp, rfl, rfl⟩, ?_⟩
          refine ⟨tas.quiet (by decide) (by simp) (.agg #[.int .i64 m.q, .string m.x, .string m.k, .string m.b, .bool m.a]) (by rintro s _ ⟨⟩; exact dk.sets_on _ (by simp) _ rfl) (fun s W h => by obtain ⟨d0, d1, d2, d3, d4⟩ := box5 (h _ _ HBY.out); simp [execOp, go_sem, Act.eval, dk.sets_get, ws, List.lookup, d0, d1, d2, d3, d4]), ?_⟩
          refine ⟨tas.st2 (x := J0) (d := 28) (idx := 6) J0_up (by simp) rfl (by simp) (fun g => rfl) (fun g => rfl) (fun g e => rfl) (fun s W => by simp [execOp, go_sem, Act.eval, dk.sets_get, ws, List.lookup]), ?_⟩
          refine ⟨tas.st3 (x := J0) (d := 29) (s1 := 26) (s2 := 28) (idx := 7) J0_up Try.underlying27 hi hz0 hz1 hz2 rfl (by show 0 < 5; decide) rfl rfl ⟨by simp, by simp, by simp⟩ (fun g => rfl) (fun g => rfl) (fun g => rfl) (fun g => rfl) (fun g v => rfl) rfl (by intro u hu; simp at hu; rcases hu with rfl | rfl | rfl | rfl | rfl <;> rfl) (by show l.length ≤ 1048576; omega) (by show (l.length + 1) * 64 ≤ 140737488355328; omega) ⟨⟨4, .data⟩, by simp, rfl, rfl⟩ ⟨⟨6, .data⟩, by simp, rfl, rfl⟩, ?_⟩
          refine ⟨tas.quiet (by decide) (by simp) (.slice (some ⟨g, 0, none⟩) l.length c) (by rintro s _ ⟨⟩; exact dk.sets_on _ (by simp) _ rfl) (fun s W h => by simp [execOp, go_sem, Act.eval, dk.sets_get, ws, List.lookup]), ?_⟩
          refine ⟨tas.quiet (by decide) (by simp) (.int .i64 (l.length : Nat)) (by rintro s _ ⟨⟩; exact dk.sets_on _ (by simp) _ rfl) (fun s W h => by simp [execOp, go_sem, Act.eval, dk.sets_get, ws, List.lookup]), ?_⟩
          refine ⟨tas.quiet (by decide) (by simp) (.slice (some ⟨g, l.length * 5, none⟩) (0) (c - l.length)) (by rintro s _ ⟨⟩; exact dk.sets_on _ (by simp) _ rfl) (fun s W h => by simp [execOp, go_sem, Act.eval, dk.sets_get, ws, List.lookup, r4]), ?_⟩
          refine ⟨tas.st4 (x := J0) (d := 33) (s1 := 29) (s2 := 32) (idx := 11) (c := c - l.length) (a := ⟨g, l.length * 5, none⟩) J0_up Try.underlying27 hi hz0 hz1 hz2 rfl (by show 0 < 5; decide) rfl rfl ⟨by simp, by simp, by simp⟩ (fun g => rfl) (fun g => rfl) (fun g => rfl) (fun g => rfl) (fun g v => rfl) (by show ((l.drop l.length).flatMap flM.c).length = (0) * 5; rw [flat_len flM.c_len, HRL.out]) (fun W hb => by rw [List.drop_length]; intro j u hu; simp at hu) (qsp.oneY _) (by show l.length ≤ 1048576 ∧ 0 ≤ 1048576; omega) (by show (l.length + 1 + (0)) * 64 ≤ 140737488355328; omega) ⟨⟨7, .data⟩, by simp, rfl, rfl⟩, ?_⟩
          exact ⟨tas.st5 (x := J0) (d := 4) (s1 := 33) (idx := 12) J0_up rfl rfl ⟨by simp, by simp⟩ (fun g => rfl) (fun g => rfl) (fun g => rfl) (fun g v => rfl) ⟨⟨11, .data⟩, by simp, rfl, rfl⟩, trivial⟩
        case fin =>
          intro s L X3 hL hC
          obtain ⟨hbl, hv4, hown⟩ := tas.done hC J0_up (N := 13) (by decide) hL
          replace hbl : Below X.heap.size X X3 := hbl
          replace hown : X3.ownsRow X.heap.size 38 5 s.v3 (l.length + 1 + (0)) ((l.take l.length).flatMap flM.c ++ [.int .i64 m.q, .string m.x, .string m.k, .string m.b, .bool m.a] ++ (l.drop l.length).flatMap flM.c) := hown
          have hlen : l.length + 1 + (0) = (back l m).length := by have := back_len l m; omega
          have hfl : (l.take l.length).flatMap flM.c ++ [.int .i64 m.q, .string m.x, .string m.k, .string m.b, .bool m.a] ++ (l.drop l.length).flatMap flM.c = (back l m).flatMap flM.c := by rw [HPT.out]; simp [flM.c]
          rw [hlen, hfl] at hown
          obtain ⟨g5, c5, hv3⟩ : ∃ g5 c5, s.v3 = .slice (some ⟨g5, 0, none⟩) (back l m).length c5 := by
            obtain ⟨_, ⟨_, h0⟩ | ⟨g6, cap, cur, e, _⟩⟩ := hown
            · omega
            · exact ⟨g6, cap, e⟩
          rw [hv3] at hown hv4
          have HOW : Hid (X3.ownsRow w.heap.size 38 5 (.slice (some ⟨g5, 0, none⟩) (back l m).length c5) (back l m).length ((back l m).flatMap flM.c)) := qsp.own_low hown hBX.out.size
          have HBL : Hid (Below X.heap.size X X3) := hbl
          have HV4 : Hid (s.v4 = .slice (some ⟨g5, 0, none⟩) (back l m).length c5) := hv4
          clear hC hL hbl hown hlen hfl hv3 hv4
          go_wp2
          refine bodyPost_ret (v := .slice (some ⟨g5, 0, none⟩) (back l m).length c5) (by simp [results, Try.results47, go_sem, dk.sets_get, ws, List.lookup, HV4.out]) rfl ?_
          exact ⟨g5, c5, rfl, HOW.out, hBX.out.trans (HBL.out.mono hBX.out.size)⟩
end Go.Proofs.Ytfgilmibeeljnaa.qbs

/- The specification's Return: what is meant is Ready again, in its place; new memory alone. -/
namespace Go.Proofs.Ytfgilmibeeljnaa.qrs
open Go.ChangeShapes Go.WideShapes Go.ChangeAt Go.RowKit Go.Proofs.Ytfgilmibeeljnaa.fl Go.Proofs.Ytfgilmibeeljnaa.qsp Go.Proofs.Ytfgilmibeeljnaa.qdp Go.Proofs.Ytfgilmibeeljnaa.qds Go.Proofs.Ytfgilmibeeljnaa.qbk
set_option linter.unusedVariables false

/-- what stands in the loop: the answer so far, its rows, and what is given back -/
structure RT (w : World) (sn : ByteArray) (nx : Int) (n8 B g1 c1 : Nat) (L : List flM.Ms) (vb ub : Option Addr) (vc uc : Nat) (GL LL : List flH.Hd) (X : World) : Prop where
  bel : Below w.heap.size w X
  res : X.heap[w.heap.size + 1]? = some (.cells #[.string ⟨#[]⟩, .int .i64 0, .slice none 0 0, .slice none 0 0] 30 (0, 0))
  out : X.heap[n8]? = some (.cells #[.string sn, .int .i64 nx, .slice (some ⟨g1, 0, none⟩) L.length c1, .slice ub LL.length uc] 30 (0, 0))
  oe : X.ownsRow (w.heap.size + 2) 38 5 (.slice (some ⟨g1, 0, none⟩) L.length c1) L.length (L.flatMap flM.c)
  av : All X B (.slice vb GL.length vc) GL
  au : All X B (.slice ub LL.length uc) LL
  h8 : w.heap.size + 2 ≤ n8
  hB : n8 < B
  hS : B ≤ X.heap.size
section
variable {w : World} {sn : ByteArray} {nx : Int} {n8 B g1 c1 : Nat} {L : List flM.Ms} {vb ub : Option Addr} {vc uc : Nat} {GL LL : List flH.Hd} {X X' : World}
theorem RT.on (h : RT w sn nx n8 B g1 c1 L vb ub vc uc GL LL X) (hb : Below X.heap.size X X') : RT w sn nx n8 B g1 c1 L vb ub vc uc GL LL X' :=
  ⟨h.bel.trans (hb.mono h.bel.size), bstay h.res hb (Array.getElem?_eq_some_iff.1 h.res).1, bstay h.out hb (Array.getElem?_eq_some_iff.1 h.out).1, own_stay h.oe hb, h.av.on hb, h.au.on hb, h.h8, h.hB, Nat.le_trans h.hS hb.size⟩
theorem RT.cap (h : RT w sn nx n8 B g1 c1 L vb ub vc uc GL LL X) : L.length ≤ c1 := by
  obtain ⟨_, ⟨h1, _⟩ | ⟨g', cap, cur, h1, _, _, h4, _⟩⟩ := h.oe
  · cases h1
  · have e2 := (Value.slice.inj h1).2.2
    omega
theorem RT.put {g2 c2 : Nat} {L' : List flM.Ms} {Y : World} (h : RT w sn nx n8 B g1 c1 L vb ub vc uc GL LL Y) (ho : Y.ownsRow X.heap.size 38 5 (.slice (some ⟨g2, 0, none⟩) L'.length c2) L'.length (L'.flatMap flM.c)) (hX : B ≤ X.heap.size) : RT w sn nx n8 B g2 c2 L' vb ub vc uc GL LL (Y.setCell ⟨n8, 2, none⟩ (.slice (some ⟨g2, 0, none⟩) L'.length c2)) := by
  have h8 := h.h8
  have hB := h.hB
  exact ⟨h.bel.setCell (by show w.heap.size ≤ n8; omega) _, boff h.res n8 2 _ (by omega), bset h.out 2 (.slice (some ⟨g2, 0, none⟩) L'.length c2), own_low (own_set ho n8 2 _ (by omega)) (by omega), all_set h.av hB, all_set h.au hB, h8, hB, by simpa using h.hS⟩
end
theorem cells7 {w : World} {B g k : Nat} {l : List flH.Hd} {e : flH.Hd} (h : Row flH.c 7 w B (some ⟨g, 0, none⟩) l) (he : l[k]? = some e) : w.cell? ⟨g, k * 7 + 2, none⟩ = some (.int .i64 e.m.q) ∧ w.cell? ⟨g, k * 7 + 3, none⟩ = some (.string e.m.x) ∧ w.cell? ⟨g, k * 7 + 4, none⟩ = some (.string e.m.k) ∧ w.cell? ⟨g, k * 7 + 5, none⟩ = some (.string e.m.b) ∧ w.cell? ⟨g, k * 7 + 6, none⟩ = some (.bool e.m.a) := by
  rcases h with h0 | ⟨b', off', hh, hlt, hc⟩
  · rw [h0] at he; simp at he
  · cases hh
    have := fun j u (hj : (flH.c e)[j]? = some u) => hc k _ he j u hj
    simp only [Nat.zero_add] at this
    exact ⟨this 2 _ rfl, this 3 _ rfl, this 4 _ rfl, this 5 _ rfl, this 6 _ rfl⟩
theorem all_some {W : World} {B vc : Nat} {vb : Option Addr} {l : List flH.Hd} {e : flH.Hd} {k : Nat} (h : All W B (.slice vb l.length vc) l) (he : l[k]? = some e) : ∃ g, vb = some ⟨g, 0, none⟩ := by
  rcases h with ⟨h1, _⟩ | ⟨g, cap, h1, _⟩
  · rw [h1] at he; simp at he
  · exact ⟨g, (Value.slice.inj h1).1⟩
theorem backs_take {l : List flM.Ms} {GL : List flH.Hd} {k : Nat} {e : flH.Hd} (he : GL[k]? = some e) : backs l (GL.take (k + 1)) = back (backs l (GL.take k)) (again e) := by
  rw [List.take_add_one, he]
  exact backs_snoc _ _ _

set_option maxRecDepth 100000 in
set_option maxHeartbeats 4000000 in
theorem spec_ret (sn : ByteArray) (nx : Int) (es : List flM.Ms) (ms : List flH.Hd) (g h cg ch : Nat) (o t : Int) (a : Bool) (w : World) (F : Fit sn es ms) (hY : Row flM.c 5 w w.heap.size (some ⟨g, 0, none⟩) es) (hE : Row flH.c 7 w w.heap.size (some ⟨h, 0, none⟩) ms) :
    Calls Try.prog 19 #[.agg #[.string sn, .int .i64 nx, .slice (some ⟨g, 0, none⟩) es.length cg, .slice (some ⟨h, 0, none⟩) ms.length ch], .int .i64 o, .int .i64 t, .bool a] w fun e w' => ∃ sa ce sb cb, e = .returned (.tuple #[.agg #[.string sn, .int .i64 nx, .slice sa (ansR sn nx es ms o t a).length ce, .slice sb (ansH sn nx es ms o t a).length cb], .int .i64 (ansC sn nx es ms o t a)]) ∧ Row flM.c 5 w' w'.heap.size sa (ansR sn nx es ms o t a) ∧ Row flH.c 7 w' w'.heap.size sb (ansH sn nx es ms o t a) ∧ Below w.heap.size w w' := by
  have hWb : Below w.heap.size w ((w.alloc (.cells #[.string sn, .int .i64 nx, .slice (some ⟨g, 0, none⟩) es.length cg, .slice (some ⟨h, 0, none⟩) ms.length ch] 30)).alloc (.cells #[.string ⟨#[]⟩, .int .i64 0, .slice none 0 0, .slice none 0 0] 30)) := ((Below.refl _ _).alloc (Nat.le_refl _) _).alloc (by simp) _
  have hcopy := spec_copy sn nx es ms g h cg ch ((w.alloc (.cells #[.string sn, .int .i64 nx, .slice (some ⟨g, 0, none⟩) es.length cg, .slice (some ⟨h, 0, none⟩) ms.length ch] 30)).alloc (.cells #[.string ⟨#[]⟩, .int .i64 0, .slice none 0 0, .slice none 0 0] 30)) F (hY.inn hWb) (hE.inn hWb)
  have HF : Hid (Fit sn es ms) := F
  have HY : Hid (Row flM.c 5 w w.heap.size (some ⟨g, 0, none⟩) es) := hY
  have HE : Hid (Row flH.c 7 w w.heap.size (some ⟨h, 0, none⟩) ms) := hE
  have HAH : Hid (ansH sn nx es ms o t a = if okB sn nx es ms = true then left o t a ms else ms) := rfl
  have HAR : Hid (ansR sn nx es ms o t a = if okB sn nx es ms = true then backs es (gone o t a ms) else es) := rfl
  have HAC : Hid (ansC sn nx es ms o t a = if okB sn nx es ms = true then ((gone o t a ms).length : Int) else 0) := rfl
  obtain ⟨AH, hAH⟩ : ∃ AH, ansH sn nx es ms o t a = AH := ⟨_, rfl⟩
  obtain ⟨AC, hAC⟩ : ∃ AC, ansC sn nx es ms o t a = AC := ⟨_, rfl⟩
  obtain ⟨AR, hAR⟩ : ∃ AR, ansR sn nx es ms o t a = AR := ⟨_, rfl⟩
  rw [hAR] at HAR
  rw [hAH] at HAH
  rw [hAC] at HAC
  simp only [hAH, hAC, hAR]
  clear hY hE F hAH hAC hAR
  go_enter Try.func19, Try.ntmps19
  go_wp2_with (go_at_call 23; fail)
  refine hcopy.mono ?_
  rintro e w1 ⟨g1, c1, h1, c2, rfl, oe1, om1, _, hb1⟩
  have hs := first_out sn nx es ms g h cg ch w w1 g1 c1 h1 c2 hb1 oe1 om1
  obtain ⟨X, hX⟩ : ∃ X, w1.alloc (.cells #[.string sn, .int .i64 nx, .slice (some ⟨g1, 0, none⟩) es.length c1, .slice (some ⟨h1, 0, none⟩) ms.length c2] 30) = X := ⟨_, rfl⟩
  rw [hX] at hs
  have HSP : Hid (SP w sn nx es ms g h cg ch w1.heap.size nx g1 c1 h1 c2 es X) := hs
  have x0 : X.cell? ⟨w.heap.size, 0, none⟩ = some (.string sn) := bcell hs.box rfl
  have x2 : X.cell? ⟨w.heap.size, 1, none⟩ = some (.int .i64 nx) := bcell hs.box rfl
  have x3 : X.cell? ⟨w.heap.size, 2, none⟩ = some (.slice (some ⟨g, 0, none⟩) es.length cg) := bcell hs.box rfl
  have x4 : X.cell? ⟨w.heap.size, 3, none⟩ = some (.slice (some ⟨h, 0, none⟩) ms.length ch) := bcell hs.box rfl
  have hok := spec_okb sn nx es ms g h cg ch X HF.out (HY.out.inn hs.bel) (HE.out.inn hs.bel)
  clear hcopy oe1 om1 hb1 hWb hs
  cases hob : okB sn nx es ms with
  | false =>
    rw [hob] at hok HAH HAC HAR
    obtain rfl : ms = AH := HAH.out.symm
    obtain rfl : es = AR := HAR.out.symm
    obtain rfl : (0 : Int) = AC := HAC.out.symm
    go_wp2_with (go_at_call 24; fail)
    clear hX
    refine hok.mono ?_
    rintro e w2 ⟨rfl, hb2⟩
    have hs := HSP.out.on hb2
    have HS2 : Hid (SP w sn nx es ms g h cg ch w1.heap.size nx g1 c1 h1 c2 es w2) := hs
    have n0 : w2.cell? ⟨w1.heap.size, 0, none⟩ = some (.string sn) := bcell hs.out rfl
    have n2 : w2.cell? ⟨w1.heap.size, 1, none⟩ = some (.int .i64 nx) := bcell hs.out rfl
    have n3 : w2.cell? ⟨w1.heap.size, 2, none⟩ = some (.slice (some ⟨g1, 0, none⟩) es.length c1) := bcell hs.out rfl
    have n4 : w2.cell? ⟨w1.heap.size, 3, none⟩ = some (.slice (some ⟨h1, 0, none⟩) ms.length c2) := bcell hs.out rfl
    have z0 : w2.cell? ⟨w.heap.size + 1, 0, none⟩ = some (.string ⟨#[]⟩) := bcell hs.res rfl
    have z2 : w2.cell? ⟨w.heap.size + 1, 1, none⟩ = some (.int .i64 0) := bcell hs.res rfl
    have z3 : w2.cell? ⟨w.heap.size + 1, 2, none⟩ = some (.slice none 0 0) := bcell hs.res rfl
    have z4 : w2.cell? ⟨w.heap.size + 1, 3, none⟩ = some (.slice none 0 0) := bcell hs.res rfl
    have z0f := bfree hs.res 0
    have z2f := bfree hs.res 1
    have z3f := bfree hs.res 2
    have z4f := bfree hs.res 3
    clear hok hs HSP x0 x2 x3 x4
    go_wp2
    refine bodyPost_ret (v := .tuple #[.agg #[.string sn, .int .i64 nx, .slice (some ⟨g1, 0, none⟩) es.length c1, .slice (some ⟨h1, 0, none⟩) ms.length c2], .int .i64 0]) (by simp [results, Try.results19, go_sem, z0, z2, z3, z4]) rfl ⟨_, _, _, _, rfl, ?_, ?_, ?_⟩
    · exact fin_row flM.c_len HS2.out.oe
    · exact fin_row flH.c_len HS2.out.om
    · exact fin_below HS2.out.bel (Nat.le_succ _)
  | true =>
    rw [hob] at hok HAH HAC HAR
    go_wp2_with (go_at_call 24; fail)
    clear hX
    refine hok.mono ?_
    rintro e w2 ⟨rfl, hb2⟩
    have hs := HSP.out.on hb2
    have HS2 : Hid (SP w sn nx es ms g h cg ch w1.heap.size nx g1 c1 h1 c2 es w2) := hs
    clear x0 x2 x3 x4
    have x0 : w2.cell? ⟨w.heap.size, 0, none⟩ = some (.string sn) := bcell hs.box rfl
    have x2 : w2.cell? ⟨w.heap.size, 1, none⟩ = some (.int .i64 nx) := bcell hs.box rfl
    have x3 : w2.cell? ⟨w.heap.size, 2, none⟩ = some (.slice (some ⟨g, 0, none⟩) es.length cg) := bcell hs.box rfl
    have x4 : w2.cell? ⟨w.heap.size, 3, none⟩ = some (.slice (some ⟨h, 0, none⟩) ms.length ch) := bcell hs.box rfl
    have htk := spec_take sn nx (some ⟨g, 0, none⟩) es.length cg ms h ch o t a w2 HF.out.ml (HE.out.inn hs.bel)
    have hw1 : w1.heap.size < w2.heap.size := (Array.getElem?_eq_some_iff.1 hs.out).1
    have h8 := hs.h8
    clear hok hs HSP
    go_wp2_with (go_at_call 45; fail)
    refine htk.mono ?_
    rintro e w3 ⟨v, u, rfl, hk⟩
    obtain ⟨GL, hGL⟩ : ∃ GL, gone o t a ms = GL := ⟨_, rfl⟩
    obtain ⟨LL, hLL⟩ : ∃ LL, left o t a ms = LL := ⟨_, rfl⟩
    have HAH2 : Hid (AH = left o t a ms) := HAH.out
    have HAC2 : Hid (AC = ((gone o t a ms).length : Int)) := HAC.out
    rw [hLL] at hk HAH2
    rw [hGL] at hk HAC2
    obtain rfl : AH = LL := HAH2.out
    obtain rfl : AC = (GL.length : Int) := HAC2.out
    have HAR2 : Hid (AR = backs es (gone o t a ms)) := HAR.out
    rw [hGL] at HAR2
    have HGLE : Hid (GL.length ≤ ms.length) := by show GL.length ≤ ms.length; rw [← hGL]; exact gone_le o t a ms
    have hln := (okB_true.1 hob).ln
    obtain ⟨vb, vc, rfl⟩ := hk.av.form
    obtain ⟨ub, uc, rfl⟩ := hk.au.form
    have hs := HS2.out.on hk.bel
    have hne1 : w1.heap.size ≠ w.heap.size + 1 := by omega
    have hne2 : w.heap.size + 1 ≠ w1.heap.size := by omega
    have n4 : w3.cell? ⟨w1.heap.size, 3, none⟩ = some (.slice (some ⟨h1, 0, none⟩) ms.length c2) := bcell hs.out rfl
    have n4f := bfree hs.out 3
    have hgne : g1 ≠ w1.heap.size := owns_ne (by decide) hs.oe hs.out
    have HR0 : Hid (RT w sn nx w1.heap.size w2.heap.size g1 c1 (backs es (GL.take 0)) vb ub vc uc GL AH (w3.setCell ⟨w1.heap.size, 3, none⟩ (.slice ub AH.length uc))) := ⟨hs.bel.setCell (by show w.heap.size ≤ w1.heap.size; omega) _, boff hs.res _ _ _ hne2, bset hs.out 3 _, owns_set hs.oe hgne _, all_set hk.av hw1, all_set hk.au hw1, h8, hw1, by simpa using hk.lo⟩
    clear htk hk hs x0 x2 x3 x4 hGL hLL HAH HAC HAR HAH2 HAC2 HS2
    go_wp2
    go_loopw [13] (fun v wr => ∃ k : Nat, k ≤ GL.length ∧ v = .int .i64 k ∧ ∃ g3 c3, Hid (RT w sn nx w1.heap.size w2.heap.size g3 c3 (backs es (GL.take k)) vb ub vc uc GL AH wr)) (fun v _ => GL.length - (intOf v).toNat)
    case atStart => exact ⟨0, Nat.zero_le _, rfl, _, _, HR0⟩
    case round =>
      obtain ⟨k, hk, rfl, g3, c3, hR⟩ := hrel
      clear HR0 n4 n4f
      have hlL : Hid ((backs es (GL.take k)).length = es.length + k) := by show (backs es (GL.take k)).length = es.length + k; rw [backs_len, List.length_take, Nat.min_eq_left hk]
      have hSz := hR.out.hS
      have hgl := HGLE.out
      by_cases hkl : k < GL.length
      · have i2 : (k : Int) < (GL.length : Int) := by omega
        have HG : Hid (GL[k]? = some GL[k]) := List.getElem?_eq_getElem hkl
        obtain ⟨⟨ht, ho, ⟨q, x, y, z, ag⟩⟩, he⟩ : ∃ e, GL[k] = e := ⟨_, rfl⟩
        rw [he] at HG
        obtain ⟨b0, rfl⟩ := all_some hR.out.av HG.out
        obtain ⟨k2, k3, k4, k5, k6⟩ := cells7 hR.out.av.row HG.out
        have HBT : Hid (backs es (GL.take (k + 1)) = back (backs es (GL.take k)) ⟨q, x, y, z, true⟩) := backs_take HG.out
        obtain ⟨LK, hLK⟩ : ∃ LK, backs es (GL.take k) = LK := ⟨_, rfl⟩
        rw [hLK] at hR hlL HBT
        have hst : Below wr.heap.size wr (wr.alloc (.cells #[.int .i64 q, .string x, .string y, .string z, .bool true] 38)) := (Below.refl _ _).alloc (Nat.le_refl _) _
        have hbk := qbs.spec_back LK g3 c3 ⟨q, x, y, z, true⟩ _ (by have := hlL.out; omega) hR.out.cap ((row_owns flM.c_len hR.out.oe).inn hst)
        have HRW : Hid (RT w sn nx w1.heap.size w2.heap.size g3 c3 LK (some ⟨b0, 0, none⟩) ub vc uc GL AH (wr.alloc (.cells #[.int .i64 q, .string x, .string y, .string z, .bool true] 38))) := hR.out.on hst
        have o2 : wr.cell? ⟨w1.heap.size, 2, none⟩ = some (.slice (some ⟨g3, 0, none⟩) LK.length c3) := bcell hR.out.out rfl
        have hw18 : w1.heap.size < wr.heap.size := by omega
        have hne5 : w1.heap.size ≠ wr.heap.size := by omega
        have hne6 : wr.heap.size ≠ w1.heap.size := by omega
        have hBB : b0 < wr.heap.size := by
          rcases hR.out.av with ⟨h1, _⟩ | ⟨g9, cap9, h1, ho9⟩
          · rw [h1] at hkl; simp at hkl
          · have := (Value.slice.inj h1).1
            cases this
            exact (ho9.lt _ rfl).2
        clear he hLK hst
        go_wp2_with (go_at_call 47; fail)
        refine hbk.mono ?_
        rintro e w4 ⟨g4, c4, rfl, how, hb4⟩
        have hR4 := HRW.out.on hb4
        have o3 : w4.cell? ⟨w1.heap.size, 2, none⟩ = some (.slice (some ⟨g3, 0, none⟩) LK.length c3) := bcell hR4.out rfl
        have o3f := bfree hR4.out 2
        have hRN := hR4.put how HRW.out.hS
        rw [← HBT.out] at hRN
        have HRN : Hid (RT w sn nx w1.heap.size w2.heap.size g4 c4 (backs es (GL.take (k + 1))) (some ⟨b0, 0, none⟩) ub vc uc GL AH (w4.setCell ⟨w1.heap.size, 2, none⟩ (.slice (some ⟨g4, 0, none⟩) (backs es (GL.take (k + 1))).length c4))) := hRN
        rw [← HBT.out]
        clear hbk how hR4 hRN o2 k2 k3 k4 k5 k6 HRW hR
        go_wp2
        go_roundw
        case rel => exact ⟨k + 1, by omega, by go_num, _, _, HRN⟩
        case measure => simp [intOf]; omega
      · obtain rfl : k = GL.length := by omega
        rw [List.take_length] at hR hlL
        rw [← HAR2.out] at hR
        have n0 : wr.cell? ⟨w1.heap.size, 0, none⟩ = some (.string sn) := bcell hR.out.out rfl
        have n2 : wr.cell? ⟨w1.heap.size, 1, none⟩ = some (.int .i64 nx) := bcell hR.out.out rfl
        have n3 : wr.cell? ⟨w1.heap.size, 2, none⟩ = some (.slice (some ⟨g3, 0, none⟩) AR.length c3) := bcell hR.out.out rfl
        have n4 : wr.cell? ⟨w1.heap.size, 3, none⟩ = some (.slice ub AH.length uc) := bcell hR.out.out rfl
        have z0 : wr.cell? ⟨w.heap.size + 1, 0, none⟩ = some (.string ⟨#[]⟩) := bcell hR.out.res rfl
        have z2 : wr.cell? ⟨w.heap.size + 1, 1, none⟩ = some (.int .i64 0) := bcell hR.out.res rfl
        have z3 : wr.cell? ⟨w.heap.size + 1, 2, none⟩ = some (.slice none 0 0) := bcell hR.out.res rfl
        have z4 : wr.cell? ⟨w.heap.size + 1, 3, none⟩ = some (.slice none 0 0) := bcell hR.out.res rfl
        have z0f := bfree hR.out.res 0
        have z2f := bfree hR.out.res 1
        have z3f := bfree hR.out.res 2
        have z4f := bfree hR.out.res 3
        clear hlL HAR2
        go_wp2
        refine bodyPost_ret (v := .tuple #[.agg #[.string sn, .int .i64 nx, .slice (some ⟨g3, 0, none⟩) AR.length c3, .slice ub AH.length uc], .int .i64 GL.length]) (by simp [results, Try.results19, go_sem, z0, z2, z3, z4]) rfl ⟨_, _, _, _, rfl, ?_, ?_, ?_⟩
        · exact fin_row flM.c_len hR.out.oe
        · exact fin_all (B := w2.heap.size) hR.out.au (by omega)
        · exact fin_below hR.out.bel (Nat.le_succ _)
end Go.Proofs.Ytfgilmibeeljnaa.qrs

/- The program's putBack: held messages put one by one into an open queue. -/
namespace Go.Proofs.Ytfgilmibeeljnaa.qri
open Go.ChangeShapes Go.WideShapes Go.ChangeAt Go.RowKit Go.Proofs.Ytfgilmibeeljnaa.fl Go.Proofs.Ytfgilmibeeljnaa.fo Go.Proofs.Ytfgilmibeeljnaa.qit Go.Proofs.Ytfgilmibeeljnaa.qst Go.Proofs.Ytfgilmibeeljnaa.qpu Go.Proofs.Ytfgilmibeeljnaa.qpo Go.Proofs.Ytfgilmibeeljnaa.qop Go.Proofs.Ytfgilmibeeljnaa.qcl Go.Proofs.Ytfgilmibeeljnaa.qsp Go.Proofs.Ytfgilmibeeljnaa.qdp Go.Proofs.Ytfgilmibeeljnaa.qpi Go.Proofs.Ytfgilmibeeljnaa.qhn Go.Proofs.Ytfgilmibeeljnaa.qdi Go.Proofs.Ytfgilmibeeljnaa.qbk
set_option linter.unusedVariables false

theorem all_kt {W W' : World} {B hb : Nat} {v : Value} {l : List flH.Hd} (h : All W B v l) (hk : Kt hb W W') (hhb : hb < B) : All W' B v l := by
  rcases h with h | ⟨g, cap, e, ho⟩
  · exact .inl h
  · refine (All.keep (.inr ⟨g, cap, e, ho⟩) fun g' hg' => ?_)
    rw [e] at hg'
    obtain ⟨hBg, cur, hc⟩ := owns_at ho
    have : g = g' := by simpa [Value.ownBlock] using hg'
    subst this
    exact hk.2 g cur 66 hc (by decide) (by omega)
theorem all_ho2 {w w6 : World} {B b hb g5 : Nat} {ub : Option Addr} {uc gr : Nat} {l : List flH.Hd} (h : All w B (.slice ub l.length uc) l) (hg : w.heap.size ≤ gr) (hbl : b < w.heap.size) (hkq : Kq hb g5 w w6) (hrow : ∃ cur, w.heap[g5]? = some (.cells cur 38 (0, 0))) (hhb : hb < B) : ∃ k, (B ≤ k ∨ k = b) ∧ gr ≠ k ∧ HO w6 k ub l ∧ k < w.heap.size := by
  rcases h with ⟨e, _⟩ | ⟨k, cap, e, ho⟩
  · exact ⟨b, .inr rfl, by omega, .inl e, hbl⟩
  · have hlt := ho.lt k rfl
    cases e
    obtain ⟨_, cur, hc⟩ := owns_at ho
    obtain ⟨cur', hc'⟩ := hrow
    have hne : k ≠ g5 := by
      rintro rfl
      rw [hc] at hc'
      simp at hc'
    exact ⟨k, .inl hlt.1, by omega, .inr ⟨rfl, (owns_ownO flH.c_len ho).kept (hkq.block k hlt.2 hne (by omega))⟩, hlt.2⟩
/-- what stands in the loop -/
structure RI (w1 : World) (hb : Nat) (Q : Qx) (g : Nat) (es : List flM.Ms) (B : Nat) (vb ub : Option Addr) (vc uc : Nat) (GL LL : List flH.Hd) (k : Nat) (M : List flM.Ms) (X : World) : Prop where
  sn : SN w1 hb Q M X
  hp : hp.Heap less M M.length
  pm : M.Perm (es ++ (GL.take k).map again)
  sg : k = 0 → SG w1 hb Q g es.length es X ∧ M = es
  av : All X B (.slice vb GL.length vc) GL
  au : All X B (.slice ub LL.length uc) LL
  hbB : hb < B
  hS : B ≤ X.heap.size
section
variable {w1 : World} {hb : Nat} {Q : Qx} {g : Nat} {es : List flM.Ms} {B : Nat} {vb ub : Option Addr} {vc uc : Nat} {GL LL : List flH.Hd} {k : Nat} {M M' : List flM.Ms} {X Y : World}
theorem RI.on (h : RI w1 hb Q g es B vb ub vc uc GL LL k M X) (hb' : Below X.heap.size X Y) : RI w1 hb Q g es B vb ub vc uc GL LL k M Y :=
  ⟨SN.on h.sn hb', h.hp, h.pm, fun e => ⟨(h.sg e).1.on hb', (h.sg e).2⟩, h.av.on hb', h.au.on hb', h.hbB, Nat.le_trans h.hS hb'.size⟩
theorem RI.put {e : flH.Hd} (h : RI w1 hb Q g es B vb ub vc uc GL LL k M X) (he : GL[k]? = some e) (h1 : M'.Perm (M ++ [again e])) (h2 : hp.Heap less M' M'.length) (h3 : SN w1 hb Q M' Y) (h4 : Kt hb X Y) : RI w1 hb Q g es B vb ub vc uc GL LL (k + 1) M' Y := by
  refine ⟨h3, h2, ?_, fun e => by omega, all_kt h.av h4 h.hbB, all_kt h.au h4 h.hbB, h.hbB, Nat.le_trans h.hS h4.1⟩
  refine h1.trans ?_
  rw [List.take_add_one, he]
  simp only [Option.toList_some, List.map_append, List.map_cons, List.map_nil]
  rw [← List.append_assoc]
  exact h.pm.append_right _
theorem RI.len (h : RI w1 hb Q g es B vb ub vc uc GL LL k M X) (hk : k ≤ GL.length) : M.length = es.length + k := by rw [h.pm.length_eq]; simp [Nat.min_eq_left hk]
theorem RI.open (h : RI w1 hb Q g es B vb ub vc uc GL LL k M X) (hk : k ≤ GL.length) : ∃ g5 cap5, SG w1 hb Q g5 cap5 M X := by
  by_cases h0 : k = 0
  · obtain ⟨h1, h2⟩ := h.sg h0
    rw [h2]
    exact ⟨_, _, h1⟩
  · exact h.sn.sg (fun e => by have := h.len hk; rw [e] at this; simp at this; omega)
end
theorem row7 {w : World} {B g k : Nat} {l : List flH.Hd} {e : flH.Hd} (h : Row flH.c 7 w B (some ⟨g, 0, none⟩) l) (he : l[k]? = some e) : ∀ (j : Nat) (u : Value), (flH.c e)[j]? = some u → w.cell? ⟨g, k * 7 + j, none⟩ = some u := fun j u hj => by
  rcases h with h0 | ⟨b', off', hh, hlt, hc⟩
  · rw [h0] at he; simp at he
  · cases hh
    have := hc k _ he j u hj
    rwa [Nat.zero_add] at this

set_option maxRecDepth 100000 in
set_option maxHeartbeats 4000000 in
theorem put_back (w1 : World) (hb : Nat) (Q : Qx) (g : Nat) (es : List flM.Ms) (B : Nat) (vb ub : Option Addr) (vc uc : Nat) (GL LL : List flH.Hd) (w3 : World) (HR0 : Hid (RI w1 hb Q g es B vb ub vc uc GL LL 0 es w3)) (hgle : es.length + GL.length ≤ 900) :
    Calls Try.prog 48 #[.pointer (some ⟨hb, 0, none⟩), .slice vb GL.length vc] w3 fun e w' => e = .returned (.tuple #[]) ∧ ∃ M, Hid (RI w1 hb Q g es B vb ub vc uc GL LL GL.length M w') := by
  go_enter Try.func48, Try.ntmps48
  go_wp2
  go_loopw [8] (fun v wr => ∃ k : Nat, k ≤ GL.length ∧ v = .int .i64 k ∧ ∃ M, Hid (RI w1 hb Q g es B vb ub vc uc GL LL k M wr)) (fun v _ => GL.length - (intOf v).toNat)
  case atStart => exact ⟨0, Nat.zero_le _, rfl, _, HR0⟩
  case round =>
    obtain ⟨k, hk, rfl, M, hR⟩ := hrel
    clear HR0
    have HML : Hid (M.length = es.length + k) := hR.out.len hk
    by_cases hkl : k < GL.length
    · have i2 : (k : Int) < (GL.length : Int) := by omega
      have HG : Hid (GL[k]? = some GL[k]) := List.getElem?_eq_getElem hkl
      obtain ⟨⟨ht, ho, ⟨q, x, y, z, ag⟩⟩, he⟩ : ∃ e, GL[k] = e := ⟨_, rfl⟩
      rw [he] at HG
      obtain ⟨v0, rfl⟩ := qrs.all_some hR.out.av HG.out
      have cs := row7 hR.out.av.row HG.out
      have c0 : wr.cell? ⟨v0, k * 7, none⟩ = some (.int .i64 ht) := cs 0 _ rfl
      have c1 : wr.cell? ⟨v0, k * 7 + 1, none⟩ = some (.int .i64 ho) := cs 1 _ rfl
      have c2 : wr.cell? ⟨v0, k * 7 + 2, none⟩ = some (.int .i64 q) := cs 2 _ rfl
      have c3 : wr.cell? ⟨v0, k * 7 + 3, none⟩ = some (.string x) := cs 3 _ rfl
      have c4 : wr.cell? ⟨v0, k * 7 + 4, none⟩ = some (.string y) := cs 4 _ rfl
      have c5 : wr.cell? ⟨v0, k * 7 + 5, none⟩ = some (.string z) := cs 5 _ rfl
      have c6 : wr.cell? ⟨v0, k * 7 + 6, none⟩ = some (.bool ag) := cs 6 _ rfl
      have hst : Below wr.heap.size wr (wr.alloc (.cells #[.int .i64 ht, .int .i64 ho, .int .i64 q, .string x, .string y, .string z, .bool true] 66)) := (Below.refl _ _).alloc (Nat.le_refl _) _
      have HRW : Hid (RI w1 hb Q g es B (some ⟨v0, 0, none⟩) ub vc uc GL LL k M (wr.alloc (.cells #[.int .i64 ht, .int .i64 ho, .int .i64 q, .string x, .string y, .string z, .bool true] 66))) := hR.out.on hst
      have hpt := put_run w1 Q hb M ⟨q, x, y, z, true⟩ (wr.alloc (.cells #[.int .i64 ht, .int .i64 ho, .int .i64 q, .string x, .string y, .string z, .bool true] 66)) HRW.out.sn HRW.out.hp (by have := HML.out; omega)
      clear he cs hst hR
      go_wp2_with (go_at_call 30; fail)
      refine hpt.mono ?_
      rintro e w4 ⟨rfl, M', hMp, hMh, hsn, hkt⟩
      have HRN : Hid (RI w1 hb Q g es B (some ⟨v0, 0, none⟩) ub vc uc GL LL (k + 1) M' w4) := HRW.out.put HG.out hMp hMh hsn hkt
      clear hpt hMp hMh hsn hkt c0 c1 c2 c3 c4 c5 c6 HRW
      go_wp2
      go_roundw
      case rel => exact ⟨k + 1, by omega, by go_num, _, HRN⟩
      case measure => simp [intOf]; omega
    · obtain rfl : k = GL.length := by omega
      have HF : Hid (∃ M, Hid (RI w1 hb Q g es B vb ub vc uc GL LL GL.length M wr)) := ⟨M, hR⟩
      clear hR HML
      go_wp2
      go_end0
      exact ⟨rfl, HF.out⟩
end Go.Proofs.Ytfgilmibeeljnaa.qri

/- The program's Return: as the specification's, its answer in rows of its own. -/
namespace Go.Proofs.Ytfgilmibeeljnaa.qri
open Go.ChangeShapes Go.WideShapes Go.ChangeAt Go.RowKit Go.Proofs.Ytfgilmibeeljnaa.fl Go.Proofs.Ytfgilmibeeljnaa.fo Go.Proofs.Ytfgilmibeeljnaa.qit Go.Proofs.Ytfgilmibeeljnaa.qst Go.Proofs.Ytfgilmibeeljnaa.qpu Go.Proofs.Ytfgilmibeeljnaa.qpo Go.Proofs.Ytfgilmibeeljnaa.qop Go.Proofs.Ytfgilmibeeljnaa.qcl Go.Proofs.Ytfgilmibeeljnaa.qsp Go.Proofs.Ytfgilmibeeljnaa.qdp Go.Proofs.Ytfgilmibeeljnaa.qpi Go.Proofs.Ytfgilmibeeljnaa.qhn Go.Proofs.Ytfgilmibeeljnaa.qdi Go.Proofs.Ytfgilmibeeljnaa.qbk
set_option linter.unusedVariables false

set_option maxRecDepth 100000 in
set_option maxHeartbeats 4000000 in
theorem impl_ret (nm : ByteArray) (nx : Int) (es : List flM.Ms) (ms : List flH.Hd) (a0 b0 ec bc : Nat) (o t : Int) (a : Bool) (w : World) (F : Fit nm es ms) (hE : Row flM.c 5 w w.heap.size (some ⟨a0, 0, none⟩) es) (hB : Row flH.c 7 w w.heap.size (some ⟨b0, 0, none⟩) ms) :
    Calls Try.prog 20 #[.agg #[.string nm, .int .i64 nx, .slice (some ⟨a0, 0, none⟩) es.length ec, .slice (some ⟨b0, 0, none⟩) ms.length bc], .int .i64 o, .int .i64 t, .bool a] w fun e w' => PD w nm nx (ansR nm nx es ms o t a) (ansH nm nx es ms o t a) (ansC nm nx es ms o t a) e w' := by
  have hWb : Below w.heap.size w ((w.alloc (.cells #[.string nm, .int .i64 nx, .slice (some ⟨a0, 0, none⟩) es.length ec, .slice (some ⟨b0, 0, none⟩) ms.length bc] 30)).alloc (.cells #[.string ⟨#[]⟩, .int .i64 0, .slice none 0 0, .slice none 0 0] 30)) := ((Below.refl _ _).alloc (Nat.le_refl _) _).alloc (by simp) _
  have hA := bold (bnew w #[.string nm, .int .i64 nx, .slice (some ⟨a0, 0, none⟩) es.length ec, .slice (some ⟨b0, 0, none⟩) ms.length bc] 30) (.cells #[.string ⟨#[]⟩, .int .i64 0, .slice none 0 0, .slice none 0 0] 30)
  have hR := bnew (w.alloc (.cells #[.string nm, .int .i64 nx, .slice (some ⟨a0, 0, none⟩) es.length ec, .slice (some ⟨b0, 0, none⟩) ms.length bc] 30)) #[.string ⟨#[]⟩, .int .i64 0, .slice none 0 0, .slice none 0 0] 30
  rw [World.size_alloc] at hR
  obtain ⟨W, hW⟩ : ∃ W, (w.alloc (.cells #[.string nm, .int .i64 nx, .slice (some ⟨a0, 0, none⟩) es.length ec, .slice (some ⟨b0, 0, none⟩) ms.length bc] 30)).alloc (.cells #[.string ⟨#[]⟩, .int .i64 0, .slice none 0 0, .slice none 0 0] 30) = W := ⟨_, rfl⟩
  have hWs : W.heap.size = w.heap.size + 2 := by rw [← hW]; simp
  rw [hW] at hWb hA hR
  have HA : Hid (W.heap[w.heap.size]? = some (.cells #[.string nm, .int .i64 nx, .slice (some ⟨a0, 0, none⟩) es.length ec, .slice (some ⟨b0, 0, none⟩) ms.length bc] 30 (0, 0))) := hA
  have HR : Hid (W.heap[w.heap.size + 1]? = some (.cells #[.string ⟨#[]⟩, .int .i64 0, .slice none 0 0, .slice none 0 0] 30 (0, 0))) := hR
  have HE : Hid (Row flM.c 5 W W.heap.size (some ⟨a0, 0, none⟩) es) := hE.inn hWb
  have HB : Hid (Row flH.c 7 W W.heap.size (some ⟨b0, 0, none⟩) ms) := hB.inn hWb
  have HF : Hid (Fit nm es ms) := F
  have BX : Hid (∀ V, Below W.heap.size W V → (V.cell? ⟨w.heap.size, 0, none⟩ = some (.string nm) ∧ V.cell? ⟨w.heap.size, 1, none⟩ = some (.int .i64 nx) ∧ V.cell? ⟨w.heap.size, 2, none⟩ = some (.slice (some ⟨a0, 0, none⟩) es.length ec) ∧ V.cell? ⟨w.heap.size, 3, none⟩ = some (.slice (some ⟨b0, 0, none⟩) ms.length bc)) ∧ (V.cell? ⟨w.heap.size + 1, 0, none⟩ = some (.string ⟨#[]⟩) ∧ V.cell? ⟨w.heap.size + 1, 1, none⟩ = some (.int .i64 0) ∧ V.cell? ⟨w.heap.size + 1, 2, none⟩ = some (.slice none 0 0) ∧ V.cell? ⟨w.heap.size + 1, 3, none⟩ = some (.slice none 0 0)) ∧ V.frozen? ⟨w.heap.size + 1, 0, none⟩ = false ∧ V.frozen? ⟨w.heap.size + 1, 1, none⟩ = false ∧ V.frozen? ⟨w.heap.size + 1, 2, none⟩ = false ∧ V.frozen? ⟨w.heap.size + 1, 3, none⟩ = false) := fun V hV => by
    have a := bstay HA.out hV (by omega)
    have r := bstay HR.out hV (by omega)
    exact ⟨⟨bcell a rfl, bcell a rfl, bcell a rfl, bcell a rfl⟩, ⟨bcell r rfl, bcell r rfl, bcell r rfl, bcell r rfl⟩, bfree r 0, bfree r 1, bfree r 2, bfree r 3⟩
  have hok := impl_okb nm nx es ms _ _ ec bc W F HE.out HB.out
  have CP : Hid (∀ V, Below W.heap.size W V → Calls Try.prog 28 #[.agg #[.string nm, .int .i64 nx, .slice (some ⟨a0, 0, none⟩) es.length ec, .slice (some ⟨b0, 0, none⟩) ms.length bc]] V fun r w' => ∃ g h, r = .returned (.agg #[.string nm, .int .i64 nx, .slice (some ⟨g, 0, none⟩) es.length es.length, .slice (some ⟨h, 0, none⟩) ms.length ms.length]) ∧ V.heap.size ≤ g ∧ V.heap.size ≤ h ∧ g ≠ h ∧ Own flM.c 5 38 w' g es es.length ∧ Own flH.c 7 66 w' h ms ms.length ∧ Below V.heap.size V w') := fun V hV => cqu.copy_queue nm nx es ms a0 b0 ec bc V F.ns F.el F.ml F.eb F.mb (HE.out.inn hV) (HB.out.inn hV)
  have HAH : Hid (ansH nm nx es ms o t a = if okB nm nx es ms = true then left o t a ms else ms) := rfl
  have HAR : Hid (ansR nm nx es ms o t a = if okB nm nx es ms = true then backs es (gone o t a ms) else es) := rfl
  have HAC : Hid (ansC nm nx es ms o t a = if okB nm nx es ms = true then ((gone o t a ms).length : Int) else 0) := rfl
  obtain ⟨AH, hAH⟩ : ∃ AH, ansH nm nx es ms o t a = AH := ⟨_, rfl⟩
  obtain ⟨AC, hAC⟩ : ∃ AC, ansC nm nx es ms o t a = AC := ⟨_, rfl⟩
  obtain ⟨AR, hAR⟩ : ∃ AR, ansR nm nx es ms o t a = AR := ⟨_, rfl⟩
  rw [hAR] at HAR
  rw [hAH] at HAH
  rw [hAC] at HAC
  simp only [hAH, hAC, hAR]
  obtain ⟨⟨x0, x1, x2, x3⟩, _, _⟩ := BX.out W (Below.refl _ _)
  clear hE hB hA hR F hAH hAC hAR
  go_enter Try.func20, Try.ntmps20
  go_wp2_with (go_at_call 27; fail)
  clear hW
  refine hok.mono ?_
  rintro e w1 ⟨rfl, hb1⟩
  obtain ⟨ob, hob⟩ : ∃ ob, okB nm nx es ms = ob := ⟨_, rfl⟩
  rw [hob]
  obtain ⟨⟨x0, x1, x2, x3⟩, ⟨z0, z1, z2, z3⟩, f0, f1, f2, f3⟩ := BX.out w1 hb1
  rw [hob] at HAH HAC HAR
  cases ob with
  | false =>
    obtain rfl : ms = AH := HAH.out.symm
    obtain rfl : es = AR := HAR.out.symm
    obtain rfl : (0 : Int) = AC := HAC.out.symm
    have hcq := CP.out w1 hb1
    clear hok hob HAH HAC HAR
    go_wp2_with (go_at_call 28; fail)
    clear x0 x1 x2 x3 z0 z1 z2 z3 f0 f1 f2 f3
    refine hcq.mono ?_
    rintro e w2 ⟨g, h, rfl, hg, hh, hgh, oe, om, hb2⟩
    have hB2 : Below W.heap.size W w2 := hb1.trans (hb2.mono hb1.size)
    obtain ⟨_, ⟨z0, z1, z2, z3⟩, f0, f1, f2, f3⟩ := BX.out w2 hB2
    have hs1 := hb1.size
    have hgl := oe.lt
    have hhl := om.lt
    have HFN : Hid (OwnO flM.c 5 38 w2 g 0 es es.length ∧ OwnO flH.c 7 66 w2 h 0 ms ms.length ∧ Below w.heap.size w w2) := ⟨of_own oe, of_own om, hWb.trans (hB2.mono hWb.size)⟩
    clear hcq oe om hb2 hB2
    go_wp2
    refine bodyPost_ret (v := .tuple #[.agg #[.string nm, .int .i64 nx, .slice (some ⟨g, 0, none⟩) es.length es.length, .slice (some ⟨h, 0, none⟩) ms.length ms.length], .int .i64 0]) (by simp [results, Try.results20, go_sem, z0, z1, z2, z3]) rfl ⟨g, _, h, _, _, rfl, by omega, by omega, hgh, by simp only [World.size_setCell]; omega, ?_, ?_, ?_⟩
    · exact (((HFN.out.1.kept (Below.heap_setCell _ _ _ _ (by show g ≠ w.heap.size + 1; omega))).kept (Below.heap_setCell _ _ _ _ (by show g ≠ w.heap.size + 1; omega))).kept (Below.heap_setCell _ _ _ _ (by show g ≠ w.heap.size + 1; omega))).kept (Below.heap_setCell _ _ _ _ (by show g ≠ w.heap.size + 1; omega))
    · exact .inr ⟨rfl, (((HFN.out.2.1.kept (Below.heap_setCell _ _ _ _ (by show h ≠ w.heap.size + 1; omega))).kept (Below.heap_setCell _ _ _ _ (by show h ≠ w.heap.size + 1; omega))).kept (Below.heap_setCell _ _ _ _ (by show h ≠ w.heap.size + 1; omega))).kept (Below.heap_setCell _ _ _ _ (by show h ≠ w.heap.size + 1; omega))⟩
    · exact (((HFN.out.2.2.setCell (by show w.heap.size ≤ w.heap.size + 1; omega) _).setCell (by show w.heap.size ≤ w.heap.size + 1; omega) _).setCell (by show w.heap.size ≤ w.heap.size + 1; omega) _).setCell (by show w.heap.size ≤ w.heap.size + 1; omega) _
  | true =>
    have HOK : Hid (qk.OkQ nm nx es ms) := okB_true.1 hob
    have hln := HOK.out.ln
    have hop := open_of nm nx es ms a0 b0 ec bc w1 HF.out.ns HF.out.el HF.out.ml HF.out.eb HF.out.mb (HE.out.inn hb1) (HB.out.inn hb1)
    clear hok
    go_wp2_with (go_at_call 29; fail)
    refine hop.mono ?_
    rintro e w2 ⟨hb, g, h, rfl, hsg, om, hh, hhb⟩
    have hb2 := hsg.bel
    have hB2 : Below W.heap.size W w2 := hb1.trans (hb2.mono hb1.size)
    have HSG : Hid (SG w1 hb ⟨nm, nx, some ⟨h, 0, none⟩, ms.length, ms.length⟩ g es.length es w2) := hsg
    have hhB : w1.heap.size ≤ hb := hsg.hbB
    have hgB : w1.heap.size ≤ g := hsg.gB
    have hbl2 : hb < w2.heap.size := (Array.getElem?_eq_some_iff.1 hsg.box).1
    have hgl2 : g < w2.heap.size := by obtain ⟨cur, h1, _⟩ := hsg.row; exact (Array.getElem?_eq_some_iff.1 h1).1
    have htk := impl_take hb _ nm nx ms h ms.length o t a w2 HF.out.ml hsg.box om.row
    clear hop x0 x1 x2 x3 z0 z1 z2 z3 f0 f1 f2 f3 hsg om
    go_wp2_with (go_at_call 46; fail)
    refine htk.mono ?_
    rintro e w3 ⟨v, u, wr, rfl, hk, hw3⟩
    have HAH2 : Hid (AH = left o t a ms) := HAH.out
    have HAC2 : Hid (AC = ((gone o t a ms).length : Int)) := HAC.out
    obtain ⟨GL, hGL⟩ : ∃ GL, gone o t a ms = GL := ⟨_, rfl⟩
    have HUP : Hid (Up (backs es GL)) := by show Up (backs es GL); rw [← hGL]; exact ok_up HOK.out o t a
    have HAR2 : Hid (AR = backs es (gone o t a ms)) := HAR.out
    rw [hGL] at HAR2
    have hgle : GL.length ≤ ms.length := by rw [← hGL]; exact gone_le o t a ms
    obtain ⟨LL, hLL⟩ : ∃ LL, left o t a ms = LL := ⟨_, rfl⟩
    rw [hLL] at hk HAH2
    rw [hGL] at hk HAC2
    obtain rfl : AH = LL := HAH2.out
    obtain rfl : AC = (GL.length : Int) := HAC2.out
    obtain ⟨vb, vc, rfl⟩ := hk.av.form
    obtain ⟨ub, uc, rfl⟩ := hk.au.form
    have hsg3 : SG w1 hb ⟨nm, nx, ub, AH.length, uc⟩ g es.length es w3 := by rw [hw3]; exact sg_held HSG.out hk.bel
    have hau : All w3 w2.heap.size (.slice ub AH.length uc) AH := by rw [hw3]; exact qds.all_set hk.au hbl2
    have HR0 : Hid (RI w1 hb ⟨nm, nx, ub, AH.length, uc⟩ g es w2.heap.size vb ub vc uc GL AH 0 es w3) := ⟨SN.of hsg3, sorted_heap HOK.out.ru, by simp, fun _ => ⟨hsg3, rfl⟩, by rw [hw3]; exact qds.all_set hk.av hbl2, hau, hbl2, by rw [hw3]; simpa using hk.lo⟩
    clear htk hk hw3 hGL hLL HAH HAC HAR HAH2 HAC2 hau hsg3
    have hpb := put_back w1 hb ⟨nm, nx, ub, AH.length, uc⟩ g es w2.heap.size vb ub vc uc GL AH w3 HR0 (by omega)
    go_wp2_with (go_at_call 48; fail)
    refine hpb.mono ?_
    rintro e wr ⟨rfl, M, hR⟩
    have hk : GL.length ≤ GL.length := Nat.le_refl _
    have HML : Hid (M.length = es.length + GL.length) := hR.out.len hk
    clear hpb HR0
    obtain ⟨g5, cap5, hsg5⟩ := hR.out.open hk
    have hcl := closed_run w1 ⟨nm, nx, ub, AH.length, uc⟩ hb g5 cap5 M wr hsg5 (by have := HML.out; omega) hR.out.hp
    have hb13 := hsg5.bel
    have hrow : ∃ cur, wr.heap[g5]? = some (.cells cur 38 (0, 0)) := by obtain ⟨cur, h1, _⟩ := hsg5.row; exact ⟨cur, h1⟩
    have HROW : Hid (∃ cur, wr.heap[g5]? = some (.cells cur 38 (0, 0))) := hrow
    have hg5B := hsg5.gB
    have HPM : Hid (M.Perm (backs es GL)) := by
      have h1 := hR.out.pm
      rw [List.take_length] at h1
      exact h1.trans (backs_perm es GL).symm
    have HAU : Hid (All wr w2.heap.size (.slice ub AH.length uc) AH) := hR.out.au
    have hS := hR.out.hS
    clear hR hsg5 hrow
    go_wp2_with (go_at_call 32; fail)
    refine hcl.mono ?_
    rintro e w6 ⟨R, gr, cr, rfl, hRp, hRs, hRo, hkq⟩
    have hRe : R = backs es GL := sort_uniq (hRp.trans HPM.out) hRs (of_up HUP.out)
    obtain rfl : AR = R := by rw [hRe]; exact HAR2.out
    have hb16 : Below w1.heap.size w1 w6 := ⟨hkq.os.trans hb13.os, hkq.tape.trans hb13.tape, hkq.output.trans hb13.output, Nat.le_trans hb13.size hkq.size, fun q hq => (hkq.block q (Nat.lt_of_lt_of_le hq hb13.size) (by omega) (by omega)).trans (hb13.block q hq)⟩
    have hgr : wr.heap.size ≤ gr ∧ gr < w6.heap.size := hRo.lt gr rfl
    have hs1 := hb1.size
    have hs12 := hb2.size
    obtain ⟨h6, hh1, hh2, hho, hh3⟩ := all_ho2 (b := w.heap.size) HAU.out hgr.1 (by omega) hkq HROW.out hbl2
    have hs36 := hkq.size
    have hB6 : Below W.heap.size W w6 := hb1.trans (hb16.mono hs1)
    have HFN : Hid (OwnO flM.c 5 38 w6 gr 0 AR AR.length ∧ HO w6 h6 ub AH ∧ Below w.heap.size w w6) := ⟨owns_ownO flM.c_len hRo, hho, hWb.trans (hB6.mono hWb.size)⟩
    obtain ⟨_, ⟨z0, z1, z2, z3⟩, f0, f1, f2, f3⟩ := BX.out w6 hB6
    clear hcl hRp hRs hRo hkq hho hb16 hb13 hB6 HAU HSG HOK hob hRe HPM HUP HAR2 HML
    go_wp2
    refine bodyPost_ret (v := .tuple #[.agg #[.string nm, .int .i64 nx, .slice (some ⟨gr, 0, none⟩) AR.length cr, .slice ub AH.length uc], .int .i64 GL.length]) (by simp [results, Try.results20, go_sem, z0, z1, z2, z3]) rfl ⟨gr, _, h6, _, _, rfl, by omega, by omega, hh2, by simp only [World.size_setCell]; omega, ?_, ?_, ?_⟩
    · exact ((((HFN.out.1).kept (Below.heap_setCell _ _ _ _ (by show gr ≠ w.heap.size + 1; omega))).kept (Below.heap_setCell _ _ _ _ (by show gr ≠ w.heap.size + 1; omega))).kept (Below.heap_setCell _ _ _ _ (by show gr ≠ w.heap.size + 1; omega))).kept (Below.heap_setCell _ _ _ _ (by show gr ≠ w.heap.size + 1; omega))
    · exact ((((HFN.out.2.1).kept (fun _ => Below.heap_setCell _ _ _ _ (by show h6 ≠ w.heap.size + 1; omega))).kept (fun _ => Below.heap_setCell _ _ _ _ (by show h6 ≠ w.heap.size + 1; omega))).kept (fun _ => Below.heap_setCell _ _ _ _ (by show h6 ≠ w.heap.size + 1; omega))).kept (fun _ => Below.heap_setCell _ _ _ _ (by show h6 ≠ w.heap.size + 1; omega))
    · exact (((HFN.out.2.2.setCell (by show w.heap.size ≤ w.heap.size + 1; omega) _).setCell (by show w.heap.size ≤ w.heap.size + 1; omega) _).setCell (by show w.heap.size ≤ w.heap.size + 1; omega) _).setCell (by show w.heap.size ≤ w.heap.size + 1; omega) _
end Go.Proofs.Ytfgilmibeeljnaa.qri

/- The law of Return, walked: at every queue the program answers as the specification, writes into nothing of it, and its answer owns its memory. -/
namespace Go.Proofs.Ytfgilmibeeljnaa.lwReturn
open Go.ChangeShapes Go.WideShapes Go.ChangeAt Go.RowKit Go.Proofs.Ytfgilmibeeljnaa.fl Go.Proofs.Ytfgilmibeeljnaa.fo Go.Proofs.Ytfgilmibeeljnaa.ql
set_option linter.unusedVariables false

theorem five {w : World} {b : Nat} {x0 x1 x2 x3 : Value} {U : TypeId} (h : w.heap[b]? = some (.cells #[x0, x1, x2, x3] U (0, 0))) : w.cell? ⟨b, 0, none⟩ = some x0 ∧ w.cell? ⟨b, 1, none⟩ = some x1 ∧ w.cell? ⟨b, 2, none⟩ = some x2 ∧ w.cell? ⟨b, 3, none⟩ = some x3 := ⟨bcell h rfl, bcell h rfl, bcell h rfl, bcell h rfl⟩
/-- what stands when the specification has answered: the argument, and the answer with its lists -/
structure Base (W : World) (n0 n6 : Nat) (nm : ByteArray) (nx AN : Int) (rs : List flM.Ms) (hs : List flH.Hd) (ra ha : Option Addr) (rc hc : Nat) (l : List flM.Ms) (lm : List flH.Hd) (sa sb : Option Addr) (ce cb : Nat) : Prop where
  bx : W.heap[n0]? = some (.cells #[.string nm, .int .i64 nx, .slice ra rs.length rc, .slice ha hs.length hc] 25 (0, 0))
  out : W.heap[n6]? = some (.cells #[.string nm, .int .i64 AN, .slice sa l.length ce, .slice sb lm.length cb] 30 (0, 0))
  ae : Row flM.c 5 W W.heap.size ra rs
  ab : Row flH.c 7 W W.heap.size ha hs
  se : Row flM.c 5 W W.heap.size sa l
  sm : Row flH.c 7 W W.heap.size sb lm
theorem fit_of {nm : ByteArray} {rs : List flM.Ms} {hs : List flH.Hd} (h : nm.size + rs.length + bulk flM.wt rs + hs.length + bulk flH.wt hs ≤ 1048576) : qsp.Fit nm rs hs := by
  refine ⟨by omega, by omega, by omega, fun e he => ?_, fun e he => ?_⟩
  · have := bulk_le flM.wt he
    simp only [flM.wt] at this
    omega
  · have := bulk_le flH.wt he
    simp only [flH.wt] at this
    omega
theorem step7 {w6 w7 : World} {nm : ByteArray} {nx : Int} {rs : List flM.Ms} {hs : List flH.Hd} {g4 h4 n : Nat} (hb : Below w6.drew.heap.size w6.drew w7) (hn : n < w6.heap.size) (hY : w6.heap[n]? = some (.cells #[.string nm, .int .i64 nx, .slice (some ⟨g4, 0, none⟩) rs.length rs.length, .slice (some ⟨h4, 0, none⟩) hs.length hs.length] 30 (0, 0))) (hE : Own flM.c 5 38 w6 g4 rs rs.length) (hB : Own flH.c 7 66 w6 h4 hs hs.length) :
    Below w6.heap.size w6 w7 ∧ Row flM.c 5 w7 w7.heap.size (some ⟨g4, 0, none⟩) rs ∧ Row flH.c 7 w7 w7.heap.size (some ⟨h4, 0, none⟩) hs ∧ w7.cell? ⟨n, 0, none⟩ = some (.string nm) ∧ w7.cell? ⟨n, 1, none⟩ = some (.int .i64 nx) ∧ w7.cell? ⟨n, 2, none⟩ = some (.slice (some ⟨g4, 0, none⟩) rs.length rs.length) ∧ w7.cell? ⟨n, 3, none⟩ = some (.slice (some ⟨h4, 0, none⟩) hs.length hs.length) := by
  have hb' : Below w6.heap.size w6 w7 := (Below.drew (Below.refl _ w6)).trans hb
  obtain ⟨c0, c1, c2, c3⟩ := five (bstay hY hb' hn)
  exact ⟨hb', (hE.below hb' hE.lt).row, (hB.below hb' hB.lt).row, c0, c1, c2, c3⟩

set_option maxRecDepth 100000 in
set_option maxHeartbeats 8000000 in
theorem walk (nm : ByteArray) (nx : Int) (rs : List flM.Ms) (hs : List flH.Hd) (ra ha : Option Addr) (rc hc : Nat) (xo xt : Int) (xa : Bool) (w : World) (hnm : nm.size ≤ maxLen) (hrl : rs.length ≤ maxLen) (hhl : hs.length ≤ maxLen) (hro : ∀ e ∈ rs, flM.ok e) (hho : ∀ e ∈ hs, flH.ok e) (hR : Row flM.c 5 w w.heap.size ra rs) (hH : Row flH.c 7 w w.heap.size ha hs) :
    Calls Try.prog 6 #[.agg #[.string nm, .int .i64 nx, .slice ra rs.length rc, .slice ha hs.length hc], .int .i64 xo, .int .i64 xt, .bool xa] w fun e w' => e = .returned (.bool true) ∧ Below w.heap.size w w' := by
  have hb : Below w.heap.size w (w.alloc (.cells #[.string nm, .int .i64 nx, .slice ra rs.length rc, .slice ha hs.length hc] 25)) := (Below.refl _ _).alloc (Nat.le_refl _) _
  have hA := bnew w #[.string nm, .int .i64 nx, .slice ra rs.length rc, .slice ha hs.length hc] 25
  obtain ⟨W, hW⟩ : ∃ W, w.alloc (.cells #[.string nm, .int .i64 nx, .slice ra rs.length rc, .slice ha hs.length hc] 25) = W := ⟨_, rfl⟩
  rw [hW] at hb hA
  have HSE : Hid (Row flM.c 5 W W.heap.size ra rs) := hR.inn hb
  have HSB : Hid (Row flH.c 7 W W.heap.size ha hs) := hH.inn hb
  have hsz := sz_queue nm nx rs hs ra ha rc hc W hnm hrl hhl hro hho HSE.out HSB.out
  have HA : Hid (W.heap[w.heap.size]? = some (.cells #[.string nm, .int .i64 nx, .slice ra rs.length rc, .slice ha hs.length hc] 25 (0, 0))) := hA
  have hlt := (Array.getElem?_eq_some_iff.1 hA).1
  obtain ⟨c0, c1, c2, c3⟩ := five hA
  clear hR hH hA hro hho
  go_enter Try.func6, Try.ntmps6
  go_wp2_with (go_at_call 7; fail)
  clear hW
  refine hsz.mono ?_
  rintro e w1 ⟨r, rfl, hr, hb1⟩
  by_cases hneg : r < 0
  · go_wp2
    go_ret
    exact ⟨rfl, hb.trans (hb1.mono hb.size)⟩
  have hF : Hid (qsp.Fit nm rs hs) := fit_of (hr (by omega))
  have z1 : rs.length ≤ 1048576 := hF.out.el
  have z2 : hs.length ≤ 1048576 := hF.out.ml
  obtain ⟨d0, d1, d2, d3⟩ := five (bstay HA.out hb1 hlt)
  have ht2 := to_queue nm nx rs hs ra ha rc hc w1 z1 z2 (HSE.out.inn hb1) (HSB.out.inn hb1)
  have hr0 : (0 : Int) ≤ r := by omega
  obtain ⟨l, hl0⟩ : ∃ y, qbk.ansR nm nx rs hs xo xt xa = y := ⟨_, rfl⟩
  have HL : Hid (∀ _ : Unit, qbk.ansR nm nx rs hs xo xt xa = l) := fun _ => hl0
  obtain ⟨lm, hlm0⟩ : ∃ y, qdp.ansH nm nx rs hs xo xt xa = y := ⟨_, rfl⟩
  have HLM : Hid (∀ _ : Unit, qdp.ansH nm nx rs hs xo xt xa = lm) := fun _ => hlm0
  obtain ⟨ok, hok0⟩ : ∃ y, qdp.ansC nm nx rs hs xo xt xa = y := ⟨_, rfl⟩
  have HOK : Hid (∀ _ : Unit, qdp.ansC nm nx rs hs xo xt xa = ok) := fun _ => hok0
  have hlen1 := qbk.ansR_le nm nx rs hs xo xt xa
  rw [HL.out ()] at hlen1
  have hll : l.length ≤ 1048577 := by omega
  have hlm : l.length ≤ maxLen := by unfold maxLen; omega
  have hlen2 := qdp.ansH_le nm nx rs hs xo xt xa
  rw [HLM.out ()] at hlen2
  have hll2 : lm.length ≤ 1048577 := by omega
  have hlm2 : lm.length ≤ maxLen := by unfold maxLen; omega
  clear hsz hr c0 c1 c2 c3 hl0 hlm0 hok0
  go_wp2_with (go_at_call 9; fail)
  refine ht2.mono ?_
  rintro e w2 ⟨g2, h2, rfl, _, _, _, re2, rb2, hb2⟩
  have hsp := qrs.spec_ret nm nx rs hs g2 h2 rs.length hs.length xo xt xa w2 hF.out re2.row rb2.row
  simp only [HL.out (), HLM.out (), HOK.out ()] at hsp
  have hB2 : Below W.heap.size W w2 := hb1.trans (hb2.mono hb1.size)
  clear ht2 d0 d1 d2 d3 re2 rb2
  go_wp2_with (go_at_call 19; fail)
  refine hsp.mono ?_
  rintro e w3 ⟨sa, ce, sb, cb, rfl, hse, hsm, hb3⟩
  have hB3 : Below W.heap.size W w3 := hB2.trans (hb3.mono hB2.size)
  have hal3 : Below w3.heap.size w3 (w3.alloc (.cells #[.string nm, .int .i64 nx, .slice sa l.length ce, .slice sb lm.length cb] 30)) := (Below.refl _ _).alloc (Nat.le_refl _) _
  have hBW : Below W.heap.size W (w3.alloc (.cells #[.string nm, .int .i64 nx, .slice sa l.length ce, .slice sb lm.length cb] 30)) := hB3.trans (hal3.mono hB3.size)
  have hBase : Base (w3.alloc (.cells #[.string nm, .int .i64 nx, .slice sa l.length ce, .slice sb lm.length cb] 30)) w.heap.size w3.heap.size nm nx nx rs hs ra ha rc hc l lm sa sb ce cb :=
    ⟨bstay HA.out hBW hlt, bnew w3 _ _, HSE.out.inn hBW, HSB.out.inn hBW, hse.inn hal3, hsm.inn hal3⟩
  obtain ⟨W3, hW3⟩ : ∃ W3, w3.alloc (.cells #[.string nm, .int .i64 nx, .slice sa l.length ce, .slice sb lm.length cb] 30) = W3 := ⟨_, rfl⟩
  rw [hW3] at hBW hBase
  have HBS : Hid (Base W3 w.heap.size w3.heap.size nm nx nx rs hs ra ha rc hc l lm sa sb ce cb) := hBase
  have hlt3 : w.heap.size < W3.heap.size := Nat.lt_of_lt_of_le hlt hBW.size
  have hlt6 : w3.heap.size < W3.heap.size := (Array.getElem?_eq_some_iff.1 hBase.out).1
  have hbw3 : Below w.heap.size w W3 := hb.trans (hBW.mono hb.size)
  obtain ⟨d0, d1, d2, d3⟩ := five HBS.out.bx
  have ht4 := to_queue nm nx rs hs ra ha rc hc W3 z1 z2 HBS.out.ae HBS.out.ab
  clear hsp hse hsm hBase hb1 hb2 hb3 hB2 hB3 hal3 hBW HSE HSB HA
  go_wp2_with (go_at_call 9; fail)
  clear hW3
  refine ht4.mono ?_
  rintro e w4 ⟨g4, h4, rfl, hg4, hh4, hgh4, re4, rb4, hb4⟩
  have hal4 : Below w4.heap.size w4 (w4.alloc (.cells #[.string nm, .int .i64 nx, .slice (some ⟨g4, 0, none⟩) rs.length rs.length, .slice (some ⟨h4, 0, none⟩) hs.length hs.length] 30)) := (Below.refl _ _).alloc (Nat.le_refl _) _
  have hx7 := bnew w4 #[.string nm, .int .i64 nx, .slice (some ⟨g4, 0, none⟩) rs.length rs.length, .slice (some ⟨h4, 0, none⟩) hs.length hs.length] 30
  have re4' := re4.below hal4 re4.lt
  have rb4' := rb4.below hal4 rb4.lt
  have hg4l := re4.lt
  have hh4l := rb4.lt
  obtain ⟨W4, hW4⟩ : ∃ W4, w4.alloc (.cells #[.string nm, .int .i64 nx, .slice (some ⟨g4, 0, none⟩) rs.length rs.length, .slice (some ⟨h4, 0, none⟩) hs.length hs.length] 30) = W4 := ⟨_, rfl⟩
  have hW4s : w4.heap.size < W4.heap.size := by rw [← hW4]; simp
  rw [hW4] at hal4 hx7 re4' rb4'
  have hB4 : Below W3.heap.size W3 W4 := hb4.trans (hal4.mono hb4.size)
  have him := qri.impl_ret nm nx rs hs g4 h4 rs.length hs.length xo xt xa W4 hF.out (re4'.row) (rb4'.row)
  simp only [HL.out (), HLM.out (), HOK.out ()] at him
  obtain ⟨x0, x1, x2, x3⟩ := five hx7
  have HX7 : Hid (W4.heap[w4.heap.size]? = some (.cells #[.string nm, .int .i64 nx, .slice (some ⟨g4, 0, none⟩) rs.length rs.length, .slice (some ⟨h4, 0, none⟩) hs.length hs.length] 30 (0, 0))) := hx7
  have HFE4 : Hid (Own flM.c 5 38 W4 g4 rs rs.length) := re4'
  have HFB4 : Hid (Own flH.c 7 66 W4 h4 hs hs.length) := rb4'
  clear ht4 d0 d1 d2 d3 re4 rb4 re4' rb4' hx7 hal4
  go_wp2_with (go_at_call 20; fail)
  clear hW4
  refine him.mono ?_
  rintro e w5 ⟨g5, c5, h5, a5, d5, rfl, hg5, hh5, hgh5, hh5l, fe5, fb5, hb5⟩
  have hal5 : Below w5.heap.size w5 (w5.alloc (.cells #[.string nm, .int .i64 nx, .slice (some ⟨g5, 0, none⟩) l.length c5, .slice a5 lm.length d5] 30)) := (Below.refl _ _).alloc (Nat.le_refl _) _
  have hx8 := bnew w5 #[.string nm, .int .i64 nx, .slice (some ⟨g5, 0, none⟩) l.length c5, .slice a5 lm.length d5] 30
  have fe5' := fe5.below hal5 fe5.lt
  have fb5' := fb5.below hal5
  have hg5l := fe5.lt
  obtain ⟨W5, hW5⟩ : ∃ W5, w5.alloc (.cells #[.string nm, .int .i64 nx, .slice (some ⟨g5, 0, none⟩) l.length c5, .slice a5 lm.length d5] 30) = W5 := ⟨_, rfl⟩
  have hW5s : w5.heap.size < W5.heap.size := by rw [← hW5]; simp
  rw [hW5] at hal5 hx8 fe5' fb5'
  have hB45 : Below W4.heap.size W4 W5 := hb5.trans (hal5.mono hb5.size)
  have hs45 := hB45.size
  have hs34 := hB4.size
  have hB5 : Below W3.heap.size W3 W5 := hB4.trans (hB45.mono hs34)
  have heq5 := eq_queue nm nx l lm (some ⟨g5, 0, none⟩) sa a5 sb c5 ce d5 cb W5 hlm hlm2 fe5'.row (HBS.out.se.inn hB5) fb5'.row (HBS.out.sm.inn hB5)
  obtain ⟨x0, x1, x2, x3⟩ := five hx8
  obtain ⟨o0, o1, o2, o3⟩ := five (bstay HBS.out.out hB5 hlt6)
  have HX8 : Hid (W5.heap[w5.heap.size]? = some (.cells #[.string nm, .int .i64 nx, .slice (some ⟨g5, 0, none⟩) l.length c5, .slice a5 lm.length d5] 30 (0, 0))) := hx8
  have HFE5 : Hid (OwnO flM.c 5 38 W5 g5 0 l l.length) := fe5'
  have HFB5 : Hid (qhn.HO W5 h5 a5 lm) := fb5'
  clear him fe5 fb5 fe5' fb5' hx8 hal5
  go_wp2_with (go_at_call 11; fail)
  clear hW5
  refine heq5.mono ?_
  rintro e w6 ⟨rfl, hb6⟩
  have hs6 := hb6.size
  have hB6 : Below W3.heap.size W3 w6 := hB5.trans (hb6.mono hB5.size)
  have hB46 : Below W4.heap.size W4 w6 := hB45.trans (hb6.mono hs45)
  obtain ⟨d0, d1, d2, d3⟩ := five (bstay HBS.out.bx hB6 hlt3)
  have x7 := bstay HX7.out hB46 hW4s
  obtain ⟨y0, y1, y2, y3⟩ := five x7
  have HY6 : Hid (w6.heap[w4.heap.size]? = some (.cells #[.string nm, .int .i64 nx, .slice (some ⟨g4, 0, none⟩) rs.length rs.length, .slice (some ⟨h4, 0, none⟩) hs.length hs.length] 30 (0, 0))) := x7
  have HFE46 : Hid (Own flM.c 5 38 w6 g4 rs rs.length) := HFE4.out.below hB46 HFE4.out.lt
  have HFB46 : Hid (Own flH.c 7 66 w6 h4 hs hs.length) := HFB4.out.below hB46 HFB4.out.lt
  have hn7 : w4.heap.size < w6.heap.size := by omega
  have ht7 := to_queue nm nx rs hs ra ha rc hc w6.drew z1 z2 (HBS.out.ae.inn hB6.drew) (HBS.out.ab.inn hB6.drew)
  clear heq5 x0 x1 x2 x3 o0 o1 o2 o3 x7
  go_wp2
  go_region_with (first | (go_at_call 9; refine ht7.mono ?_; rintro e w7 ⟨g7, h7, rfl, _, _, _, re7, rb7, hb7⟩; obtain ⟨hb7', e7, f7, q70, q71, q72, q73⟩ := step7 hb7 hn7 HY6.out HFE46.out HFB46.out; have heq := eq_queue nm nx rs hs (some ⟨g4, 0, none⟩) (some ⟨g7, 0, none⟩) (some ⟨h4, 0, none⟩) (some ⟨h7, 0, none⟩) rs.length rs.length hs.length hs.length w7 hrl hhl e7 re7.row f7 rb7.row; clear e7 f7 re7 rb7) | (go_at_call 11; refine heq.mono ?_; rintro e w8 ⟨rfl, hb8⟩))
  all_goals
    have hb68 : Below w6.heap.size w6 w8 := hb7'.trans (hb8.mono hb7'.size)
    have hB8 : Below W3.heap.size W3 w8 := hB6.trans (hb68.mono hB6.size)
    have hB58 : Below W5.heap.size W5 w8 := hb6.trans (hb68.mono hs6)
    have hs8 := hB58.size
    obtain ⟨y0, y1, y2, y3⟩ := five (bstay HY6.out hb68 hn7)
    have hmk := qms.mark_queue nm nx rs hs g4 0 h4 0 rs.length hs.length w8 (by omega) (by omega) hgh4 (of_own (HFE46.out.below hb68 HFE46.out.lt)) (of_own (HFB46.out.below hb68 HFB46.out.lt))
    have HX88 : Hid (w8.heap[w5.heap.size]? = some (.cells #[.string nm, .int .i64 nx, .slice (some ⟨g5, 0, none⟩) l.length c5, .slice a5 lm.length d5] 30 (0, 0))) := bstay HX8.out hB58 hW5s
    have HFE58 : Hid (OwnO flM.c 5 38 w8 g5 0 l l.length) := HFE5.out.below hB58 HFE5.out.lt
    have HFB58 : Hid (qhn.HO w8 h5 a5 lm) := HFB5.out.below hB58
    have hgE : W3.heap.size ≤ g4 ∧ W3.heap.size ≤ h4 ∧ W3.heap.size ≤ g5 ∧ W3.heap.size ≤ h5 := ⟨by omega, by omega, by omega, by omega⟩
    clear hb7' hb7 hb8 ht7 heq q70 q71 q72 q73 d0 d1 d2 d3 hb68 hb6 HY6 HFE46 HFB46 hB6 hB46 hB5 hB45 hb5 hb4 hB4
    go_wp2_with (go_at_call 12; fail)
    refine hmk.mono ?_
    rintro e w9 ⟨rfl, _, _, htn⟩
    have hs9 := htn.size
    obtain ⟨kk, hkk⟩ : ∃ kk : Nat, 1 + 5 * rs.length + 7 * hs.length = kk := ⟨_, rfl⟩
    rw [hkk]
    have hk0 : decide ((kk : Int) < 0) = false := by simp
    have hB9 : Below W3.heap.size W3 w9 := hB8.trans (htn.below hB8.size (fun k hk => by rcases hk with rfl | rfl <;> omega))
    have b9 : w9.heap[w5.heap.size]? = some (.cells #[.string nm, .int .i64 nx, .slice (some ⟨g5, 0, none⟩) l.length c5, .slice a5 lm.length d5] 30 (0, 0)) := (htn.block _ (by omega) (by omega)).trans HX88.out
    have fe9 : OwnO flM.c 5 38 w9 g5 0 l l.length := HFE58.out.kept (htn.block g5 HFE58.out.lt (by omega))
    have fb9 : qhn.HO w9 h5 a5 lm := HFB58.out.kept (fun hlt => htn.block h5 hlt (by omega))
    have heq9 := eq_queue nm nx l lm (some ⟨g5, 0, none⟩) sa a5 sb c5 ce d5 cb w9 hlm hlm2 fe9.row (HBS.out.se.inn hB9) fb9.row (HBS.out.sm.inn hB9)
    obtain ⟨x0, x1, x2, x3⟩ := five b9
    obtain ⟨o0, o1, o2, o3⟩ := five (bstay HBS.out.out hB9 hlt6)
    have HX9 : Hid (w9.heap[w5.heap.size]? = some (.cells #[.string nm, .int .i64 nx, .slice (some ⟨g5, 0, none⟩) l.length c5, .slice a5 lm.length d5] 30 (0, 0))) := b9
    have HFE9 : Hid (OwnO flM.c 5 38 w9 g5 0 l l.length) := fe9
    have HFB9 : Hid (qhn.HO w9 h5 a5 lm) := fb9
    have hlt9 : w5.heap.size < w9.heap.size := by omega
    clear hkk hmk y0 y1 y2 y3 b9 fe9 fb9 htn HX88 HFE58 HFB58 hB8 hB58
    go_wp2_with (go_at_call 11; fail)
    refine heq9.mono ?_
    rintro e w10 ⟨rfl, hb10⟩
    have hB10 : Below W3.heap.size W3 w10 := hB9.trans (hb10.mono hB9.size)
    have hs10 := hb10.size
    have b10 := bstay HX9.out hb10 hlt9
    obtain ⟨p0, p1, p2, p3⟩ := five b10
    have HX10 : Hid (w10.heap[w5.heap.size]? = some (.cells #[.string nm, .int .i64 nx, .slice (some ⟨g5, 0, none⟩) l.length c5, .slice a5 lm.length d5] 30 (0, 0))) := b10
    have hmk := qhn.mark_queue nm nx l lm g5 h5 c5 d5 a5 w10 (by omega) (by omega) hgh5 (HFE9.out.below hb10 HFE9.out.lt) (HFB9.out.below hb10)
    clear heq9 x0 x1 x2 x3 o0 o1 o2 o3 b10 hb10 HX9 HFE9 HFB9 hB9
    go_wp2_with (go_at_call 12; fail)
    refine hmk.mono ?_
    rintro e w11 ⟨rfl, fe11, fb11, htn⟩
    have hs11 := htn.size
    have hB11 : Below W3.heap.size W3 w11 := hB10.trans (htn.below hB10.size (fun k hk => by rcases hk with rfl | rfl <;> omega))
    have b11 : w11.heap[w5.heap.size]? = some (.cells #[.string nm, .int .i64 nx, .slice (some ⟨g5, 0, none⟩) l.length c5, .slice a5 lm.length d5] 30 (0, 0)) := (htn.block _ (by omega) (by omega)).trans HX10.out
    have hhd := qhn.held_queue nm nx l.length lm.length g5 h5 c5 d5 a5 w11 (by omega) (by omega) fe11 fb11
    have HFE11 : Hid (OwnO flM.c 5 38 w11 g5 0 (mrM.mks 1 l.length) l.length) := fe11
    have HFB11 : Hid (qhn.HO w11 h5 a5 (mrH.mks (1 + 5 * l.length) lm.length)) := fb11
    obtain ⟨mm, hmm⟩ : ∃ mm : Nat, 1 + 5 * l.length + 7 * lm.length = mm := ⟨_, rfl⟩
    rw [hmm] at hhd ⊢
    have HMM : Hid (1 + 5 * l.length + 7 * lm.length = mm) := hmm
    have hm0 : decide ((mm : Int) < 0) = false := by simp
    obtain ⟨x0, x1, x2, x3⟩ := five b11
    have HX11 : Hid (w11.heap[w5.heap.size]? = some (.cells #[.string nm, .int .i64 nx, .slice (some ⟨g5, 0, none⟩) l.length c5, .slice a5 lm.length d5] 30 (0, 0))) := b11
    have hlt11 : w5.heap.size < w11.heap.size := by omega
    clear hmk p0 p1 p2 p3 b11 fe11 fb11 htn hmm HX10 hB10
    go_wp2_with (go_at_call 13; fail)
    refine hhd.mono ?_
    rintro e w12 ⟨rfl, hb12⟩
    have hs12 := hb12.size
    have hB12 : Below W3.heap.size W3 w12 := hB11.trans (hb12.mono hB11.size)
    obtain ⟨d0, d1, d2, d3⟩ := five (bstay HBS.out.bx hB12 hlt3)
    have ht13 := to_queue nm nx rs hs ra ha rc hc w12 z1 z2 (HBS.out.ae.inn hB12) (HBS.out.ab.inn hB12)
    clear hhd x0 x1 x2 x3
    go_wp2_with (go_at_call 9; fail)
    refine ht13.mono ?_
    rintro e w13 ⟨g13, h13, rfl, _, _, _, re13, rb13, hb13⟩
    have him := qri.impl_ret nm nx rs hs g13 h13 rs.length hs.length xo xt xa w13 hF.out (re13.row) (rb13.row)
    simp only [HL.out (), HLM.out (), HOK.out ()] at him
    have hB13 : Below w11.heap.size w11 w13 := hb12.trans (hb13.mono hs12)
    clear ht13 d0 d1 d2 d3 re13 rb13 hb13 hb12 hB12
    go_wp2_with (go_at_call 20; fail)
    refine him.mono ?_
    rintro e w14 ⟨gx, cx, hx, ax, dx, rfl, _, _, _, _, fe14, fb14, hb14⟩
    have hal14 : Below w14.heap.size w14 (w14.alloc (.cells #[.string nm, .int .i64 nx, .slice (some ⟨gx, 0, none⟩) l.length cx, .slice ax lm.length dx] 30)) := (Below.refl _ _).alloc (Nat.le_refl _) _
    have hx12 := bnew w14 #[.string nm, .int .i64 nx, .slice (some ⟨gx, 0, none⟩) l.length cx, .slice ax lm.length dx] 30
    have fe14' := fe14.below hal14 fe14.lt
    have fb14' := fb14.below hal14
    obtain ⟨W14, hW14⟩ : ∃ W14, w14.alloc (.cells #[.string nm, .int .i64 nx, .slice (some ⟨gx, 0, none⟩) l.length cx, .slice ax lm.length dx] 30) = W14 := ⟨_, rfl⟩
    rw [hW14] at hal14 hx12 fe14' fb14'
    have hB14 : Below w11.heap.size w11 W14 := (hB13.trans (hb14.mono hB13.size)).trans (hal14.mono (by have := hb14.size; have := hB13.size; omega))
    have hB314 : Below W3.heap.size W3 W14 := hB11.trans (hB14.mono hB11.size)
    have heq14 := eq_queue nm nx l lm (some ⟨gx, 0, none⟩) sa ax sb cx ce dx cb W14 hlm hlm2 fe14'.row (HBS.out.se.inn hB314) fb14'.row (HBS.out.sm.inn hB314)
    obtain ⟨x0, x1, x2, x3⟩ := five hx12
    obtain ⟨o0, o1, o2, o3⟩ := five (bstay HBS.out.out hB314 hlt6)
    clear him fe14 fb14 fe14' fb14' hx12 hal14 hb14 hB13
    go_wp2_with (go_at_call 11; fail)
    clear hW14
    refine heq14.mono ?_
    rintro e w15 ⟨rfl, hb15⟩
    have hB15 : Below w11.heap.size w11 w15 := hB14.trans (hb15.mono hB14.size)
    obtain ⟨p0, p1, p2, p3⟩ := five (bstay HX11.out hB15 hlt11)
    have hhd := qhn.held_queue nm nx l.length lm.length g5 h5 c5 d5 a5 w15 (by omega) (by omega) (HFE11.out.below hB15 HFE11.out.lt) (HFB11.out.below hB15)
    rw [HMM.out] at hhd
    clear heq14 x0 x1 x2 x3 o0 o1 o2 o3
    go_wp2_with (go_at_call 13; fail)
    refine hhd.mono ?_
    rintro e w16 ⟨rfl, hb16⟩
    have hB16 : Below w11.heap.size w11 w16 := hB15.trans (hb16.mono hB15.size)
    have hfin : Below w.heap.size w w16 := hbw3.trans ((hB11.trans (hB16.mono hB11.size)).mono hbw3.size)
    clear hhd p0 p1 p2 p3
    go_wp2
    go_ret
    exact ⟨rfl, hfin⟩
end Go.Proofs.Ytfgilmibeeljnaa.lwReturn

/- The law FnExactReturn holds: at every queue, every owner, tag and either bool that the law admits, of any memory, the program Return answers as the specification (which is Return of the document, chapter 5), writes into nothing of them, and its answer owns its memory, behind another call too; no condition of my own. -/
namespace Go.Proofs.Ytfgilmibeeljnaa.fnExactReturn
open Go.ChangeShapes Go.WideShapes Go.ChangeAt Go.RowKit
open Go.ChangeMaps (open_string shut_string)
set_option linter.unusedVariables false

theorem own : ownKnob Try.prog.godebug = none := by kernel_rfl
theorem laidOut : laidOutB Try.prog = true := by kernel_rfl

theorem walk (nm0 : ByteArray) (nx0 : Int) (rs0 : List flM.Ms) (hs0 : List flH.Hd) (ra0 ha0 : Option Addr) (rc0 hc0 : Nat) (hnm0 : nm0.size ≤ maxLen) (hnx0 : (Lit.int .i64 nx0).wf = true) (hrl0 : rs0.length ≤ maxLen) (hhl0 : hs0.length ≤ maxLen) (hro0 : ∀ e ∈ rs0, flM.ok e) (hho0 : ∀ e ∈ hs0, flH.ok e) (a1 : Int) (w1 : (Lit.int .i64 a1).wf = true) (a2 : Int) (w2 : (Lit.int .i64 a2).wf = true) (a3 : Bool) (w : World)  (hR0 : fl.Row flM.c 5 w w.heap.size ra0 rs0) (hH0 : fl.Row flH.c 7 w w.heap.size ha0 hs0) :
    Calls Try.prog 6 #[.agg #[.string nm0, .int .i64 nx0, .slice ra0 rs0.length rc0, .slice ha0 hs0.length hc0], .int .i64 a1, .int .i64 a2, .bool a3] w fun e w' => e = .returned (.bool true) ∧ Below w.heap.size w w' := by
  exact lwReturn.walk nm0 nx0 rs0 hs0 ra0 ha0 rc0 hc0 a1 a2 a3 w hnm0 hrl0 hhl0 hro0 hho0 hR0 hH0

set_option maxRecDepth 100000 in
theorem lifted (os : Os) (started : os.Started) (H : Type) (enc : TypeId × Value → H) :
    ReturnsInHanded {} Try.checked os 6 .any (Rows.fnExactReturnSpec.pre6 enc Try.prog Try.f6 Rows.fnExactReturnRow.domain false) (Rows.fnExactReturnSpec.post enc Try.prog Try.f6 false true false false) := by
  refine returnsInHanded_of_change (C := Try.checked) own started (by kernel_rfl) Try.func6
    (ChangeSpec.witness6 (enc := enc) (C := Try.checked) false ⟨#[], #[.agg #[.string ByteArray.empty, .int .i64 0, .slice none 0 0, .slice none 0 0], .int .i64 0, .int .i64 0, .bool false], []⟩ 8 (by kernel_rfl) (by kernel_rfl) (by kernel_rfl) (by kernel_rfl)) ?_
  intro W base args ds gs before hval0 hW hcnd _
  have hval : ∀ (j : Nat) t v, Try.f6.params[j]? = some t → args[j]? = some v → Value.okWide Try.prog W .any base t v := hval0
  have hW' := hW
  obtain ⟨p, q, hA0, hV, hb, hfz, hnd⟩ := hW
  have hA : DataW.TrodAll enc Try.prog W 0 (fun _ => true) true Try.f6.params.toList args.toList ds p := hA0
  rw [Try.params6] at hA hval
  obtain ⟨v0, vs0, d0, ds0, p0, q0, hargs, rfl, rfl, h0, r0⟩ := trodAll_cons hA
  obtain ⟨v1, vs1, d1, ds1, p1, q1, rfl, rfl, rfl, h1, r1⟩ := trodAll_cons r0
  obtain ⟨v2, vs2, d2, ds2, p2, q2, rfl, rfl, rfl, h2, r2⟩ := trodAll_cons r1
  obtain ⟨v3, vs3, d3, ds3, p3, q3, rfl, rfl, rfl, h3, r3⟩ := trodAll_cons r2
  obtain ⟨rfl, rfl, rfl⟩ := trodAll_nil r3
  obtain rfl : args = #[v0, v1, v2, v3] := by cases args; simp_all
  obtain ⟨rfl, rfl⟩ := trodVars_none hV
  have k0 := h0
  have lt0 : ∀ x ∈ p0, x.block < W.heap.size := by obtain ⟨m, hm⟩ := k0; exact DataW.trod_lt m _ _ _ hm
  obtain ⟨nm0, nx0, rs0, hs0, ra0, ha0, rc0, hc0, rfl, hnm0, hnx0, hrl0, hhl0, hro0, hho0, hR0, hH0⟩ := qa.open_queue (hval 0 25 v0 rfl rfl) h0
  obtain ⟨a1, rfl, rfl, rfl, w1⟩ := open_int Try.underlying3 (hval 1 3 v1 rfl rfl) h1
  obtain ⟨a2, rfl, rfl, rfl, w2⟩ := open_int Try.underlying3 (hval 2 3 v2 rfl rfl) h2
  obtain ⟨a3, rfl, rfl, rfl⟩ := open_bool Try.underlying4 (hval 3 4 v3 rfl rfl) h3
  clear hA0 hval0
  refine (walk nm0 nx0 rs0 hs0 ra0 ha0 rc0 hc0 hnm0 hnx0 hrl0 hhl0 hro0 hho0 a1 w1 a2 w2 a3 W  hR0 hH0).mono fun e W' ⟨he, hg⟩ => ?_
  subst he
  exact ⟨_, rfl, _, _, _, [], _, [], hW', (trodAll_cons_mk (shut_bool Try.underlying4 _) trodAll_mk0), (trodAll_cons_mk (Below.trod laidOut (by kernel_rfl) (of_decide_eq_true (by kernel_rfl)) k0 hg lt0) (trodAll_cons_mk (shut_int Try.underlying3 w1) (trodAll_cons_mk (shut_int Try.underlying3 w2) (trodAll_cons_mk (shut_bool Try.underlying4 _) trodAll_mk0)))), rfl, hg.frame _, fun h => by cases h⟩

theorem over : Rows.fnExactReturnRow.holds Try.pinned (OpenSpec.ofChange Rows.fnExactReturnSpec) :=
  OpenClaim.holds_of_wide 6 Try.f6 rfl rfl rfl rfl rfl rfl rfl ⟨rfl, rfl, rfl, rfl, rfl⟩ rfl rfl rfl rfl rfl (by kernel_rfl) Try.func6 (by kernel_rfl)
    (of_decide_eq_true (by kernel_rfl)) (by unfold Func.isWrapper; first | (rw [if_pos (by decide +kernel)]; kernel_rfl) | (rw [if_neg (by decide +kernel)]; exact ⟨rfl, rfl⟩))
    (fun os started H enc _ => lifted os started H enc)

theorem proved : Rows.FnExactReturnSaid := over
#print axioms proved
end Go.Proofs.Ytfgilmibeeljnaa.fnExactReturn
