/- Where a pair goes in a run, and the run behind it. -/
import Derived.Test.YtjnfljipomjcjaaGreatDoorRk09
import Derived.Test.YtjnfljipomjcjaaGreatDoorRk12
import Derived.Test.YtjnfljipomjcjaaGreatDoorFlatLib
import Derived.Lib.Strings
import Derived.Test.YtjnfljipomjcjaaGreatDoorFlPair

/- The program's Records. -/
namespace Go.Proofs.YtjnfljipomjcjaaGreatDoor.rcI
open Go.ChangeShapes Go.WideShapes Go.ChangeAt Go.RowKit Go.Proofs.YtjnfljipomjcjaaGreatDoor.fl Go.Proofs.YtjnfljipomjcjaaGreatDoor.fo Go.Proofs.YtjnfljipomjcjaaGreatDoor.rn Go.Proofs.YtjnfljipomjcjaaGreatDoor.mrR Go.Proofs.YtjnfljipomjcjaaGreatDoor.gbp Go.Proofs.YtjnfljipomjcjaaGreatDoor.rcp Go.Proofs.YtjnfljipomjcjaaGreatDoor.rcm Go.Proofs.YtjnfljipomjcjaaGreatDoor.rcS Go.Proofs.YtjnfljipomjcjaaGreatDoor.asf
set_option linter.unusedVariables false

/-- what the program's tables hold: the sums' table, and the library's variable that errors.As reads -/
structure TB (w : World) : Prop where
  et : ET w
  tab : ∀ r, r < 16 → w.cell? ⟨0, r, none⟩ = some (.int .u32 (cs.tab r : Int))
theorem TB.lt {w : World} (h : TB w) : 1 < w.heap.size ∧ 0 < w.heap.size := by
  refine ⟨h.et.lt, ?_⟩
  have h2 := h.tab 0 (by decide)
  rcases Nat.lt_or_ge 0 w.heap.size with h3 | h3
  · exact h3
  · simp [World.cell?, Array.getElem?_eq_none h3] at h2
theorem TB.below {B : Nat} {w w' : World} (h : TB w) (hb : Below B w w') (hl : 1 < B ∧ 0 < B) : TB w' :=
  ⟨(hb.cell (p := ⟨1, 0, none⟩) hl.1).trans h.et, fun r hr => (hb.cell (p := ⟨0, r, none⟩) hl.2).trans (h.tab r hr)⟩
theorem TB.on {w w' : World} (h : TB w) (hb : Below w.heap.size w w') : TB w' := h.below hb h.lt

/-- what getRecord answers: the batch at a place and the place behind it, or -1 -/
def RP (s : ByteArray) (i : Int) (w : World) (e : Ending) (w' : World) : Prop := ∃ v, e = .returned (.tuple #[v, .int .i64 (if isR s i = true then nxt s i else -1)]) ∧ (isR s i = true → w'.ownsRow w.heap.size 61 3 v (bat s i).length ((bat s i).flatMap flP.c)) ∧ Below w.heap.size w w'
theorem low {W : World} {B B' n m : Nat} {T : TypeId} {v : Value} {xs : List Value} (h : W.ownsRow B T m v n xs) (hB : B' ≤ B) : W.ownsRow B' T m v n xs := by
  obtain ⟨h0, h1 | ⟨g, cap, cur, h1, h2, h3⟩⟩ := h
  · exact ⟨h0, .inl h1⟩
  · exact ⟨h0, .inr ⟨g, cap, cur, h1, Nat.le_trans hB h2, h3⟩⟩
set_option maxRecDepth 100000 in
set_option maxHeartbeats 2000000 in
theorem impl_rec (s : ByteArray) (i : Int) (w : World) (hs : s.size ≤ 1048576) (hlo : 0 ≤ i) (hhi : i ≤ s.size) (hT : TB w) :
    Calls Tryz.prog 25 #[.string s, .int .i64 i] w fun e w' => RP s i w e w' := by
  have HT : Hid (TB w) := hT
  have NO : Hid (isR s i = false → ∀ X, Below w.heap.size w X → RP s i w (.returned (.tuple #[.slice none 0 0, .int .i64 (-1)])) X) := fun h X hb => ⟨_, by rw [h]; rfl, fun h2 => by (rw [h] at h2; cases h2), hb⟩
  clear hT
  have hgi := gi.impl_get s i 4 w hs (by omega) (by omega)
  go_enter Tryz.func25, Tryz.ntmps25
  go_wp2_with (go_at_call 58; fail)
  refine hgi.mono ?_
  rintro e w1 ⟨rfl, hw1⟩
  obtain rfl := hw1.symm
  clear hgi
  cases ha : gi.okAt s i 4 with
  | false =>
    have h0 := gl.none s i ha
    rw [h0.1, h0.2]
    have hgl := gl.impl_getLong s (-1) w hs (by omega) (by omega)
    have h1 : gl.here s (-1) = false := by
      cases h : gl.here s (-1) with
      | false => rfl
      | true =>
        unfold gl.here at h
        simp only [Bool.and_eq_true] at h
        have := at4 h.1.1
        omega
    rw [long_no h1] at hgl
    go_wp2_with (go_at_call 59; fail)
    refine hgl.mono ?_
    rintro e w2 ⟨rfl, hb2⟩
    clear hgl
    have HF := NO.out (no_1 ha) w2 hb2
    go_wp2
    go_ret2
    exact HF
  | true =>
    have hA := at4 ha
    rw [stop4 ha]
    have hgl := gl.impl_getLong s (i + 4) w hs (by omega) (by omega)
    go_wp2_with (go_at_call 59; fail)
    refine hgl.mono ?_
    rintro e w2 ⟨rfl, hb2⟩
    clear hgl
    cases hh : gl.here s (i + 4) with
    | false =>
      rw [long_no hh]
      have HF := NO.out (no_2 hh) w2 hb2
      go_wp2
      go_ret2
      exact HF
    | true =>
      have hL := long_in hh
      have h5 : ¬ gl.behind s (i + 4) < 0 := by omega
      have hcs := cs.impl_sum (gl.text s (i + 4)) w2 (text_small hs).2 (HT.out.on hb2).tab
      have hsl := sum_lt (gl.text s (i + 4))
      go_wp2_with (go_at_call 34; fail)
      refine hcs.mono ?_
      rintro e w4 ⟨rfl, hw4⟩
      obtain rfl := hw4
      clear hcs
      by_cases he : gi.num s i 4 = (cs.sum (gl.text s (i + 4)) : Int)
      · have hgb := gim.impl_got (gl.text s (i + 4)) w2 (text_small hs).2 (HT.out.on hb2).et
        have hmw : wrap64 (cs.sum (gl.text s (i + 4)) : Int) = (cs.sum (gl.text s (i + 4)) : Int) := IntWalk.wrap64_in _ (by omega)
        rw [he]
        go_wp2_with (go_at_call 11; fail)
        refine hgb.mono ?_
        rintro e w3 ⟨vb, rfl, hrow, hb3⟩
        have hb13 : Below w.heap.size w w3 := hb2.trans (hb3.mono hb2.size)
        clear hgb
        cases hg : gotB (gl.text s (i + 4)) with
        | false =>
          have HF := NO.out (no_3 hg) w3 hb13
          go_wp2
          go_ret2
          exact HF
        | true =>
          have HY := yes ha hh hg he
          have HF : Hid (RP s i w (.returned (.tuple #[vb, .int .i64 (gl.behind s (i + 4))])) w3) := by
            refine ⟨vb, by rw [HY]; rfl, fun _ => ?_, hb13⟩
            exact low hrow hb2.size
          clear hrow HY
          go_wp2
          go_ret2
          exact HF.out
      · have HF := NO.out (no_4 he) w2 hb2
        obtain ⟨n4, hn4⟩ : ∃ n4, gi.num s i 4 = n4 := ⟨_, rfl⟩
        obtain ⟨m4, hm4⟩ : ∃ m4 : Int, (cs.sum (gl.text s (i + 4)) : Int) = m4 := ⟨_, rfl⟩
        rw [hn4] at he ⊢
        rw [hm4] at he ⊢
        have he2 : (m4 != n4) = true := by simpa using fun h => he h.symm
        have hmw : wrap64 m4 = m4 := IntWalk.wrap64_in m4 (by rw [← hm4]; omega)
        have he3 : (wrap64 m4 != n4) = true := by rw [hmw]; exact he2
        clear hn4 hm4 hsl hA
        go_wp2
        go_ret2
        exact HF

set_option maxRecDepth 100000 in
set_option maxHeartbeats 2000000 in
theorem impl_recs (s : ByteArray) (w : World) (hs : s.size ≤ 1048576) (hT : TB w) :
    Calls Tryz.prog 6 #[.string s] w fun e w' => ∃ v, e = .returned (.tuple #[v, .int .i64 (recs s).2]) ∧ ∃ rs : List Rn, rs.map (·.l) = (recs s).1 ∧ RO w w' v rs := by
  have HR0 : Hid (RO w w (.slice none 0 0) []) := ⟨Below.refl _ _, World.ownsRow_nil w w.heap.size _ 1, fun r hr => by (cases hr), fun i j r s hi => by simp at hi⟩
  by_cases hbig : 200000 < s.size
  · have b2 : (200000 : Int) < (s.size : Int) := by omega
    go_enter Tryz.func6, Tryz.ntmps6
    go_wp2
    go_ret2
    rw [recs_big hbig]
    exact ⟨_, rfl, [], rfl, HR0.out⟩
  have hs2 : s.size ≤ 200000 := by omega
  have b2 : ¬ (200000 : Int) < (s.size : Int) := by omega
  have HS0 : Hid (St s w 0 [] (.slice none 0 0) w) := ⟨HR0.out, left_0 s⟩
  have HT : Hid (TB w) := hT
  clear HR0 hbig hT
  go_enter Tryz.func6, Tryz.ntmps6
  go_wp2
  go_loopw [4, 5] (fun v y wr => ∃ (i : Int) (rs : List Rn), y = .int .i64 i ∧ Hid (St s w i rs v wr)) (fun _ y _ => s.size - (intOf y).toNat)
  case atStart => exact ⟨0, [], rfl, HS0⟩
  case round =>
    obtain ⟨i, rs, rfl, hst⟩ := hrel
    clear HS0
    obtain ⟨hlo, hhi⟩ := hst.out.lo
    have hlen := hst.out.len hs2
    have hrc := impl_rec s i wr hs hlo hhi (HT.out.on hst.out.ro.bel)
    go_wp2_with (go_at_call 25; fail)
    refine hrc.mono ?_
    rintro e w3 ⟨vb, rfl, hrow, hb13⟩
    clear hrc
    cases hr : isR s i with
    | false =>
      have HF := hst.out.fin hs2 hr hb13
      rw [if_neg (by decide)]
      go_wp2
      go_ret2
      exact HF
    | true =>
      rw [if_pos rfl]
      have HI := isR_in hr
      have h5 : ¬ nxt s i < 0 := by omega
      obtain ⟨ga, gc, rfl, hm⟩ := pmk.mine_of flP.c_len (hrow hr)
      obtain ⟨v', Y, hrun, hro⟩ := app_one (c := gc) hst.out.ro hb13 hm (by omega)
      have HN : Hid (St s w (nxt s i) (rs ++ [⟨ga, gc, bat s i⟩]) v' Y) := hst.out.next hr hro
      clear hm hro hrow hst hb13 hr
      go_wp2_with (at_builtin; refine cpr.wpList_append_run rfl _ _ _ _ rfl _ _ _ rfl rfl hrun ?_)
      go_roundw
      case rel => exact ⟨_, _, rfl, HN⟩
      case measure => simp [intOf]; omega
end Go.Proofs.YtjnfljipomjcjaaGreatDoor.rcI

/- Texts ordered by their bytes. -/
set_option linter.unusedVariables false
namespace Go.Proofs.YtjnfljipomjcjaaGreatDoor.rc
open Go.ChangeShapes Go.WideShapes Go.ChangeAt Go.RowKit
def lt (a b : ByteArray) : Bool := Op.bytesLess a.toList b.toList
def cmpT (a b : ByteArray) : Int := if lt a b then -1 else if a = b then 0 else 1
theorem of_same {x y : ByteArray} (h : x.toList = y.toList) : x = y := by
  rw [Lib.toList_data, Lib.toList_data] at h
  exact ByteArray.ext (Array.toList_inj.1 h)
end Go.Proofs.YtjnfljipomjcjaaGreatDoor.rc
namespace Go.Proofs.YtjnfljipomjcjaaGreatDoor.ro
open Go.Proofs.YtjnfljipomjcjaaGreatDoor.rc
theorem bl_irrefl : ∀ a : List UInt8, Op.bytesLess a a = false
  | [] => rfl
  | x :: a => by simp [Op.bytesLess, bl_irrefl a]
theorem bl_trans : ∀ {a b c : List UInt8}, Op.bytesLess a b = true → Op.bytesLess b c = true → Op.bytesLess a c = true
  | _, [], _, h, _ => by simp [Op.bytesLess] at h
  | _, _ :: _, [], _, h => by simp [Op.bytesLess] at h
  | [], _ :: _, _ :: _, _, _ => rfl
  | x :: a, y :: b, z :: c, h1, h2 => by
    simp only [Op.bytesLess, Bool.or_eq_true, decide_eq_true_eq, Bool.and_eq_true, beq_iff_eq] at h1 h2 ⊢
    rcases h1 with h1 | ⟨rfl, h1⟩
    · rcases h2 with h2 | ⟨rfl, h2⟩
      · left; exact UInt8.lt_trans h1 h2
      · left; exact h1
    · rcases h2 with h2 | ⟨rfl, h2⟩
      · left; exact h2
      · right; exact ⟨rfl, bl_trans h1 h2⟩
theorem bl_asymm {a b : List UInt8} (h : Op.bytesLess a b = true) : Op.bytesLess b a = false := by
  cases h2 : Op.bytesLess b a with
  | false => rfl
  | true => have := bl_trans h h2; rw [bl_irrefl] at this; cases this
theorem bl_tri : ∀ (a b : List UInt8), Op.bytesLess a b = false → a ≠ b → Op.bytesLess b a = true
  | [], [], _, h => absurd rfl h
  | [], _ :: _, h, _ => by simp [Op.bytesLess] at h
  | _ :: _, [], _, _ => rfl
  | x :: a, y :: b, h, hne => by
    simp only [Op.bytesLess, Bool.or_eq_false_iff, decide_eq_false_iff_not, Bool.and_eq_false_iff] at h
    simp only [Op.bytesLess, Bool.or_eq_true, decide_eq_true_eq, Bool.and_eq_true, beq_iff_eq]
    obtain ⟨h1, h2⟩ := h
    by_cases e : x = y
    · subst e
      right
      refine ⟨rfl, bl_tri a b ?_ (fun e => hne (by rw [e]))⟩
      rcases h2 with h2 | h2
      · simp at h2
      · exact h2
    · left
      have h3 : ¬ x.toNat < y.toNat := fun h => h1 (UInt8.lt_iff_toNat_lt.2 h)
      have h4 : x.toNat ≠ y.toNat := fun h => e (UInt8.toNat_inj.1 h)
      exact UInt8.lt_iff_toNat_lt.2 (by omega)

theorem lt_trans {a b c : ByteArray} (h1 : lt a b = true) (h2 : lt b c = true) : lt a c = true := bl_trans h1 h2
theorem lt_irrefl (a : ByteArray) : lt a a = false := bl_irrefl _
theorem lt_asymm {a b : ByteArray} (h : lt a b = true) : lt b a = false := bl_asymm h
theorem lt_tri {a b : ByteArray} (h : lt a b = false) (hne : a ≠ b) : lt b a = true := bl_tri _ _ h (fun e => hne (of_same e))
theorem cmp_zero {a b : ByteArray} : cmpT a b = 0 ↔ a = b := by
  unfold cmpT
  cases h : lt a b with
  | true => simp; intro e; rw [e, lt_irrefl] at h; cases h
  | false => simp
end Go.Proofs.YtjnfljipomjcjaaGreatDoor.ro

/- Where a pair goes in a run, and the run behind it. -/
namespace Go.Proofs.YtjnfljipomjcjaaGreatDoor.ptp
open Go.ChangeShapes Go.WideShapes Go.ChangeAt Go.RowKit Go.Proofs.YtjnfljipomjcjaaGreatDoor.fl Go.Proofs.YtjnfljipomjcjaaGreatDoor.rc Go.Proofs.YtjnfljipomjcjaaGreatDoor.ro
set_option linter.unusedVariables false

def posP : List flP.Pr → ByteArray → Nat
  | [], _ => 0
  | e :: l, r => if lt e.k r then posP l r + 1 else 0
theorem posP_le : ∀ (l : List flP.Pr) (r : ByteArray), posP l r ≤ l.length
  | [], _ => Nat.le_refl _
  | e :: l, r => by
    unfold posP
    have := posP_le l r
    split
    · simp; omega
    · omega
theorem posP_eq : ∀ (l : List flP.Pr) (r : ByteArray) (p : Nat), p ≤ l.length → (∀ (i : Nat) a, i < p → l[i]? = some a → lt a.k r = true) → (∀ a, l[p]? = some a → lt a.k r = false) → posP l r = p
  | [], r, p, h, _, _ => by simp at h; subst h; rfl
  | e :: l, r, 0, _, _, h3 => by
    unfold posP
    rw [h3 e rfl]
    rfl
  | e :: l, r, p + 1, h1, h2, h3 => by
    unfold posP
    rw [h2 0 e (by omega) rfl, if_pos rfl, posP_eq l r p (by simp at h1; omega) (fun i a hi ha => h2 (i + 1) a (by omega) ha) (fun a ha => h3 a ha)]
def isP (l : List flP.Pr) (p : Nat) (r : ByteArray) : Bool := match l[p]? with | some a => decide (a.k = r) | none => false
def restP (l : List flP.Pr) (r : ByteArray) : List flP.Pr := if isP l (posP l r) r = true then l.drop (posP l r + 1) else l.drop (posP l r)
def setP (l : List flP.Pr) (e : flP.Pr) : List flP.Pr := l.take (posP l e.k) ++ e :: restP l e.k
theorem setP_le (l : List flP.Pr) (e : flP.Pr) : (setP l e).length ≤ l.length + 1 := by
  have := posP_le l e.k
  unfold setP restP
  split <;> simp <;> omega
theorem setP_mem {l : List flP.Pr} {e f : flP.Pr} (h : f ∈ setP l e) : f ∈ l ∨ f = e := by
  unfold setP restP at h
  rcases List.mem_append.1 h with h | h
  · exact .inl (List.mem_of_mem_take h)
  · rcases List.mem_cons.1 h with h | h
    · exact .inr h
    · split at h <;> exact .inl (List.mem_of_mem_drop h)
theorem isP_true {l : List flP.Pr} {p : Nat} {r : ByteArray} : isP l p r = true ↔ ∃ a, l[p]? = some a ∧ cmpT a.k r = 0 := by
  unfold isP
  cases h : l[p]? with
  | none => simp
  | some a => simp [cmp_zero]
end Go.Proofs.YtjnfljipomjcjaaGreatDoor.ptp
