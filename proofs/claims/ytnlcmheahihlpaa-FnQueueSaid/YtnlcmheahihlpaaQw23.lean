/- FnQueue, walked: what comes on the way is as it is told, at every code. -/
import Derived.Test.YtnlcmheahihlpaaQw07
import Derived.Test.YtnlcmheahihlpaaQw09
import Derived.Test.YtnlcmheahihlpaaQPushSpec
import Derived.Test.YtnlcmheahihlpaaQw16
import Derived.Test.YtnlcmheahihlpaaQw20
import Derived.Test.YtnlcmheahihlpaaQw21
import Derived.Test.YtnlcmheahihlpaaQw18
import Derived.Test.YtnlcmheahihlpaaQw22
import Derived.Test.YtnlcmheahihlpaaQuietIn
import Derived.BigQuiet

/- FnQueue, its pure part: what Drop, Return and Pop make of a right queue is right, how long it is, and what comes back of a message that was popped. -/
namespace Go.Proofs.Ytnlcmheahihlpaa.fqp
open Go.ChangeShapes Go.WideShapes Go.ChangeAt Go.RowKit Go.Proofs.Ytnlcmheahihlpaa.fl Go.Proofs.Ytnlcmheahihlpaa.qsp Go.Proofs.Ytnlcmheahihlpaa.qdp Go.Proofs.Ytnlcmheahihlpaa.qbk
set_option linter.unusedVariables false

/-- a right queue, said of all pairs -/
structure Ok (n : ByteArray) (nx : Int) (rs : List flM.Ms) (hs : List flH.Hd) : Prop where
  nmo : nm.good n = true
  nxo : 1 ≤ nx ∧ nx ≤ 1000000000
  ln : rs.length + hs.length ≤ 500
  rm : ∀ m ∈ rs, qk.mOk m nx = true
  ru : Up rs
  hm : ∀ h ∈ hs, qk.mOk h.m nx = true ∧ qk.hOk h = true
  hu : hs.Pairwise qk.hLt
  d1 : ∀ m ∈ rs, ∀ h ∈ hs, m.q ≠ h.m.q
  d2 : hs.Pairwise fun a b => a.m.q ≠ b.m.q
section
variable {n : ByteArray} {nx : Int} {rs : List flM.Ms} {hs : List flH.Hd} {o t : Int} {a : Bool}
theorem ok_of (h : qk.OkQ n nx rs hs) : Ok n nx rs hs := by
  refine ⟨h.nmo, h.nxo, h.ln, fun m hm => ?_, up_of h.ru, fun m hm => ?_, ?_, fun m hm k hk => ?_, ?_⟩
  · obtain ⟨i, hi⟩ := List.mem_iff_getElem?.1 hm
    exact h.rm i m hi
  · obtain ⟨i, hi⟩ := List.mem_iff_getElem?.1 hm
    exact h.hm i m hi
  · refine List.pairwise_iff_getElem.2 fun i j hi hj hij => ?_
    exact qpp.cmpH_lt.1 (qpp.own_up h (j - i - 1) i _ _ (List.getElem?_eq_getElem hi) (by rw [show i + (j - i - 1) + 1 = j by omega]; exact List.getElem?_eq_getElem hj))
  · obtain ⟨i, hi⟩ := List.mem_iff_getElem?.1 hm
    obtain ⟨j, hj⟩ := List.mem_iff_getElem?.1 hk
    exact h.d1 j i m k hi hj
  · exact List.pairwise_iff_getElem.2 fun i j hi hj hij => h.d2 j i _ _ hij (List.getElem?_eq_getElem hi) (List.getElem?_eq_getElem hj)
theorem pw_at {α : Type} {R : α → α → Prop} {l : List α} (h : l.Pairwise R) {i j : Nat} {x y : α} (hij : i < j) (hx : l[i]? = some x) (hy : l[j]? = some y) : R x y := by
  obtain ⟨h3, rfl⟩ := List.getElem?_eq_some_iff.1 hx
  obtain ⟨h4, rfl⟩ := List.getElem?_eq_some_iff.1 hy
  exact List.pairwise_iff_getElem.1 h i j h3 h4 hij
theorem Ok.to (h : Ok n nx rs hs) : qk.OkQ n nx rs hs :=
  ⟨h.nmo, h.nxo, h.ln, fun i m hi => h.rm m (List.mem_of_getElem? hi), of_up h.ru, fun i m hi => h.hm m (List.mem_of_getElem? hi), fun i x y hx hy => pw_at h.hu (Nat.lt_succ_self i) hx hy, fun i k m x hm hx => h.d1 m (List.mem_of_getElem? hm) x (List.mem_of_getElem? hx), fun i k x y hk hx hy => pw_at h.d2 hk hx hy⟩
theorem gone_left (ms : List flH.Hd) : (gone o t a ms).length + (left o t a ms).length = ms.length := by
  unfold gone left
  induction ms with
  | nil => rfl
  | cons m l ih =>
    simp only [List.filter_cons]
    cases hit o t a m <;> simp at ih ⊢ <;> omega
theorem drop_ok (h : Ok n nx rs hs) : Ok n nx rs (left o t a hs) := by
  have hl := left_le o t a hs
  have hln := h.ln
  exact ⟨h.nmo, h.nxo, by omega, h.rm, h.ru, fun m hm => h.hm m (List.mem_filter.1 hm).1, h.hu.sublist List.filter_sublist, fun m hm k hk => h.d1 m hm k (List.mem_filter.1 hk).1, h.d2.sublist List.filter_sublist⟩
theorem apart (h : hs.Pairwise fun a b => a.m.q ≠ b.m.q) {x y : flH.Hd} (hx : x ∈ hs) (hy : y ∈ hs) (hne : x ≠ y) : x.m.q ≠ y.m.q := by
  obtain ⟨i, hi⟩ := List.mem_iff_getElem?.1 hx
  obtain ⟨j, hj⟩ := List.mem_iff_getElem?.1 hy
  rcases Nat.lt_trichotomy i j with h1 | h1 | h1
  · exact pw_at h h1 hi hj
  · subst h1
    rw [hi] at hj
    exact absurd (Option.some.inj hj) hne
  · exact (pw_at h h1 hj hi).symm
theorem ret_ok (h : Ok n nx rs hs) : Ok n nx (backs rs (gone o t a hs)) (left o t a hs) := by
  have hl := @gone_left o t a hs
  have hln := h.ln
  have hd := @drop_ok _ _ _ _ o t a h
  have hin : ∀ m ∈ backs rs (gone o t a hs), m ∈ rs ∨ ∃ k ∈ hs, hit o t a k = true ∧ m = again k := fun m hm => by
    rcases List.mem_append.1 ((backs_perm rs _).mem_iff.1 hm) with hm | hm
    · exact .inl hm
    · obtain ⟨k, hk, rfl⟩ := List.mem_map.1 hm
      obtain ⟨h1, h2⟩ := List.mem_filter.1 hk
      exact .inr ⟨k, h1, h2, rfl⟩
  refine ⟨h.nmo, h.nxo, by rw [backs_len]; omega, fun m hm => ?_, ok_up h.to o t a, hd.hm, hd.hu, fun m hm k hk => ?_, hd.d2⟩
  · rcases hin m hm with hm | ⟨k, hk, _, rfl⟩
    · exact h.rm m hm
    · exact (h.hm k hk).1
  · obtain ⟨k1, k2⟩ := List.mem_filter.1 hk
    rcases hin m hm with hm | ⟨x, hx, hh, rfl⟩
    · exact h.d1 m hm k k1
    · refine apart h.d2 hx k1 (fun e => ?_)
      subst e
      simp [hh] at k2
theorem atO_ge (o : Int) (hs : List flH.Hd) : ∀ k, k ≤ hs.length → ∀ (i : Nat) (x : flH.Hd), qpp.atO o hs k ≤ i → i < k → hs[i]? = some x → ¬ x.o ≤ o
  | 0, _, i, x, _, h, _ => by omega
  | k + 1, hk, i, x, h1, h2, hx => by
    have hg : hs[k]? = some hs[k] := List.getElem?_eq_getElem (by omega)
    by_cases hh : hs[k].o ≤ o
    · rw [qpp.atO_yes hg hh] at h1
      omega
    · rw [qpp.atO_no hg hh] at h1
      rcases Nat.lt_or_ge i k with h3 | h3
      · exact atO_ge o hs k (by omega) i x h1 h3 hx
      · obtain rfl : i = k := by omega
        rw [hg] at hx
        rw [← Option.some.inj hx]
        exact hh
theorem atO_last (o : Int) (hs : List flH.Hd) : ∀ k, k ≤ hs.length → 0 < qpp.atO o hs k → ∃ x, hs[qpp.atO o hs k - 1]? = some x ∧ x.o ≤ o
  | 0, _, h => by simp [qpp.atO] at h
  | k + 1, hk, h => by
    have hg : hs[k]? = some hs[k] := List.getElem?_eq_getElem (by omega)
    by_cases hh : hs[k].o ≤ o
    · rw [qpp.atO_yes hg hh]
      exact ⟨_, hg, hh⟩
    · rw [qpp.atO_no hg hh] at h ⊢
      exact atO_last o hs k (by omega) h
/-- a message popped and put back -/
structure Pp (n : ByteArray) (nx : Int) (rs : List flM.Ms) (hs : List flH.Hd) (o t : Int) (e : flM.Ms) (l : List flM.Ms) : Prop where
  eq : rs = e :: l
  am : qpp.ansM n nx rs hs o t = e
  ar : qpp.ansR n nx rs hs o t = l
  ok : okB n nx l (qpp.ansH n nx rs hs o t) = true
  cn : ansC n nx l (qpp.ansH n nx rs hs o t) o t false = 1
  bk : qbk.ansR n nx l (qpp.ansH n nx rs hs o t) o t false = ⟨e.q, e.x, e.k, e.b, true⟩ :: l
theorem pop_all (hg : qpp.good n nx rs hs o t = true) : ∃ e l, Pp n nx rs hs o t e l := by
  have hg2 := hg
  unfold qpp.good qpp.hand at hg2
  simp only [Bool.and_eq_true, decide_eq_true_eq, Bool.not_eq_true', List.isEmpty_eq_false_iff] at hg2
  obtain ⟨⟨⟨h1, h2⟩, h3⟩, h4⟩ := hg2
  have H := ok_of (okB_true.1 h1)
  obtain ⟨e, l, rfl⟩ := List.exists_cons_of_ne_nil h3
  obtain ⟨p, hp⟩ : ∃ p, qpp.atO o hs hs.length = p := ⟨_, rfl⟩
  have hpl : p ≤ hs.length := by rw [← hp]; exact qpp.atO_le o hs _
  have hnl : ∀ x ∈ hs, qpp.late o t x = false := fun x hx => by
    cases hl : qpp.late o t x with
    | false => rfl
    | true => rw [List.any_eq_true.2 ⟨x, hx, hl⟩] at h4; cases h4
  have hge : ∀ x ∈ hs.drop p, o < x.o := fun x hx => by
    obtain ⟨i, hi⟩ := List.mem_iff_getElem?.1 hx
    rw [List.getElem?_drop] at hi
    have := atO_ge o hs hs.length (Nat.le_refl _) (p + i) x (by rw [hp]; omega) (List.getElem?_eq_some_iff.1 hi).1 hi
    omega
  have hle : ∀ x ∈ hs.take p, x.o ≤ o := fun x hx => by
    obtain ⟨i, hi⟩ := List.mem_iff_getElem?.1 hx
    have hi9 := (List.getElem?_eq_some_iff.1 hi).1
    rw [List.length_take] at hi9
    rw [List.getElem?_take_of_lt (by omega)] at hi
    obtain ⟨y, hy, hyo⟩ := atO_last o hs hs.length (Nat.le_refl _) (by omega)
    rw [hp] at hy
    rcases Nat.lt_or_ge i (p - 1) with h9 | h9
    · have := pw_at H.hu h9 hi hy
      unfold qk.hLt at this
      omega
    · obtain rfl : i = p - 1 := by omega
      rw [hi] at hy
      rw [Option.some.inj hy]
      exact hyo
  have hH : qpp.ansH n nx (e :: l) hs o t = hs.take p ++ ⟨t, o, e⟩ :: hs.drop p := by
    unfold qpp.ansH
    rw [if_pos hg, hp]
    rfl
  have hmem : ∀ x ∈ hs.take p ++ ⟨t, o, e⟩ :: hs.drop p, x ∈ hs ∨ x = ⟨t, o, e⟩ := fun x hx => by
    rcases List.mem_append.1 hx with hx | hx
    · exact .inl (List.mem_of_mem_take hx)
    rcases List.mem_cons.1 hx with rfl | hx
    · exact .inr rfl
    · exact .inl (List.mem_of_mem_drop hx)
  have hlen : (hs.take p ++ (⟨t, o, e⟩ : flH.Hd) :: hs.drop p).length = hs.length + 1 := by
    rw [List.length_append, List.length_cons, List.length_take, List.length_drop]
    omega
  obtain ⟨hup1, hup2⟩ := List.pairwise_cons.1 H.ru
  have hxo : Ok n nx l (hs.take p ++ ⟨t, o, e⟩ :: hs.drop p) := by
    have hln := H.ln
    rw [List.length_cons] at hln
    have hsp : hs.take p ++ hs.drop p = hs := List.take_append_drop p hs
    have hu := H.hu
    rw [← hsp, List.pairwise_append] at hu
    have hd := H.d2
    rw [← hsp, List.pairwise_append] at hd
    refine ⟨H.nmo, H.nxo, by rw [hlen]; omega, fun m hm => H.rm m (List.mem_cons_of_mem _ hm), hup2, fun x hx => ?_, ?_, fun m hm x hx => ?_, ?_⟩
    · rcases hmem x hx with hx | rfl
      · exact H.hm x hx
      · refine ⟨H.rm e (List.mem_cons_self ..), ?_⟩
        unfold qk.hOk
        simp only [Bool.and_eq_true, decide_eq_true_eq]
        exact h2
    · refine List.pairwise_append.2 ⟨hu.1, List.pairwise_cons.2 ⟨fun x hx => .inl (hge x hx), hu.2.1⟩, fun x hx y hy => ?_⟩
      rcases List.mem_cons.1 hy with rfl | hy
      · have hx1 := hle x hx
        have hx2 := hnl x (List.mem_of_mem_take hx)
        unfold qpp.late at hx2
        unfold qk.hLt
        simp only [Bool.and_eq_false_iff, decide_eq_false_iff_not] at hx2
        show x.o < o ∨ (x.o = o ∧ x.t < t)
        omega
      · exact hu.2.2 x hx y hy
    · rcases hmem x hx with hx | rfl
      · exact H.d1 m (List.mem_cons_of_mem _ hm) x hx
      · have := hup1 m hm
        show m.q ≠ e.q
        omega
    · refine List.pairwise_append.2 ⟨hd.1, List.pairwise_cons.2 ⟨fun x hx => H.d1 e (List.mem_cons_self ..) x (List.mem_of_mem_drop hx), hd.2.1⟩, fun x hx y hy => ?_⟩
      rcases List.mem_cons.1 hy with rfl | hy
      · exact (H.d1 e (List.mem_cons_self ..) x (List.mem_of_mem_take hx)).symm
      · exact hd.2.2 x hx y hy
  have hok : okB n nx l (hs.take p ++ ⟨t, o, e⟩ :: hs.drop p) = true := okB_true.2 hxo.to
  have hnh : ∀ x ∈ hs, hit o t false x = false := fun x hx => by
    have := hnl x hx
    unfold qpp.late at this
    unfold hit
    simp only [Bool.and_eq_false_iff, decide_eq_false_iff_not, Bool.false_and, Bool.or_false] at this ⊢
    omega
  have hyes : hit o t false ⟨t, o, e⟩ = true := by simp [hit]
  have hgone : gone o t false (hs.take p ++ ⟨t, o, e⟩ :: hs.drop p) = [⟨t, o, e⟩] := by
    unfold gone
    rw [List.filter_append, List.filter_cons, if_pos hyes, List.filter_eq_nil_iff.2 (fun x hx => by rw [hnh x (List.mem_of_mem_take hx)]; decide), List.filter_eq_nil_iff.2 (fun x hx => by rw [hnh x (List.mem_of_mem_drop hx)]; decide)]
    rfl
  refine ⟨e, l, rfl, by unfold qpp.ansM; rw [if_pos hg]; rfl, by unfold qpp.ansR; rw [if_pos hg]; rfl, by rw [hH]; exact hok, ?_, ?_⟩
  · unfold ansC
    rw [hH, if_pos hok, hgone]
    rfl
  · unfold qbk.ansR
    rw [hH, if_pos hok, hgone]
    show back l (again ⟨t, o, e⟩) = _
    have h0 : at_ l (again ⟨t, o, e⟩).q = 0 := by
      cases l with
      | nil => rfl
      | cons f r =>
        have := hup1 f (List.mem_cons_self ..)
        have h9 : ¬ f.q < (again ⟨t, o, e⟩).q := by show ¬ f.q < e.q; omega
        simp [at_, h9]
    unfold back
    rw [h0]
    rfl
/-- Drop and Return of a right queue, and of one that is not -/
structure Dr (n : ByteArray) (nx : Int) (rs : List flM.Ms) (hs : List flH.Hd) (o t : Int) (a : Bool) (k : Nat) : Prop where
  cn : ansC n nx rs hs o t a = k
  hl : (ansH n nx rs hs o t a).length + k = hs.length
  rl : (qbk.ansR n nx rs hs o t a).length = rs.length + k
  yes : okB n nx rs hs = true → okB n nx (qbk.ansR n nx rs hs o t a) (ansH n nx rs hs o t a) = true ∧ okB n nx rs (ansH n nx rs hs o t a) = true
  no : okB n nx rs hs = false → k = 0 ∧ qbk.ansR n nx rs hs o t a = rs ∧ ansH n nx rs hs o t a = hs
theorem drop_all (n : ByteArray) (nx : Int) (rs : List flM.Ms) (hs : List flH.Hd) (o t : Int) (a : Bool) : ∃ k, Dr n nx rs hs o t a k := by
  cases hok : okB n nx rs hs with
  | false => exact ⟨0, by simp [ansC, hok], by simp [ansH, hok], by simp [qbk.ansR, hok], fun h => by rw [hok] at h; exact absurd h (by decide), fun _ => ⟨rfl, by simp [qbk.ansR, hok], by simp [ansH, hok]⟩⟩
  | true =>
    have H := ok_of (okB_true.1 hok)
    have hl := @gone_left o t a hs
    exact ⟨(gone o t a hs).length, by simp [ansC, hok], by simp [ansH, hok]; omega, by simp [qbk.ansR, hok, backs_len], fun _ => ⟨by simp only [qbk.ansR, ansH, hok, if_true]; exact okB_true.2 (ret_ok H).to, by simp only [ansH, hok, if_true]; exact okB_true.2 (drop_ok H).to⟩, fun h => by rw [hok] at h; exact absurd h (by decide)⟩
/-- Push where it can be -/
theorem push_all {x k b : ByteArray} (h : qps.fits n nx rs hs x k b = true) : qps.ansE n nx rs hs x k b = rs ++ [⟨nx, x, k, b, false⟩] ∧ qps.ansN n nx rs hs x k b = nx + 1 ∧ okB n (nx + 1) (rs ++ [⟨nx, x, k, b, false⟩]) hs = true := by
  refine ⟨by unfold qps.ansE; rw [if_pos h], by unfold qps.ansN; rw [if_pos h], ?_⟩
  unfold qps.fits at h
  simp only [Bool.and_eq_true] at h
  exact h.2
end
end Go.Proofs.Ytnlcmheahihlpaa.fqp

/- FnQueue: the contracts in the words of its walk: queues by their lists, wherever these lie. -/
namespace Go.Proofs.Ytnlcmheahihlpaa.qtt
open Go.ChangeShapes Go.WideShapes Go.ChangeAt Go.RowKit Go.Proofs.Ytnlcmheahihlpaa.fl Go.Proofs.Ytnlcmheahihlpaa.fo Go.Proofs.Ytnlcmheahihlpaa.dw Go.Proofs.Ytnlcmheahihlpaa.qsp Go.Proofs.Ytnlcmheahihlpaa.dlq Go.Proofs.Ytnlcmheahihlpaa.dqs
set_option linter.unusedVariables false

/-- rows alone, the messages' from a block's first cell -/
structure Rq (W : World) (es : List flM.Ms) (ms : List flH.Hd) (ga ha : Option Addr) : Prop where
  hy : Row flM.c 5 W W.heap.size ga es
  hh : Row flH.c 7 W W.heap.size ha ms
  ay : es = [] ∨ ∃ g, ga = some ⟨g, 0, none⟩
section
variable {j : Nat} {W W' : World} {sn : ByteArray} {nx : Int} {es : List flM.Ms} {ms : List flH.Hd} {ga ha ra rb : Option Addr} {cg ch rc rd : Nat}
theorem Rq.below (h : Rq W es ms ga ha) (hb : Below W.heap.size W W') : Rq W' es ms ga ha := ⟨h.hy.inn hb, h.hh.inn hb, h.ay⟩
theorem us_below (h : Us W es ms ga cg ha ch) (hb : Below W.heap.size W W') : Us W' es ms ga cg ha ch := ⟨h.ny, h.nh, h.hy.inn hb, h.hh.inn hb, h.ly, h.lh, h.ay, h.ah⟩
theorem us_rq (h : Us W es ms ga cg ha ch) : Rq W es ms ga ha := ⟨h.hy, h.hh, h.ay⟩
theorem ol_rq {B : Nat} (h1 : OL flM.c 5 41 W B ga cg es) (h2 : HL W B ha ch ms) : Rq W es ms ga ha := us_rq (⟨h1, h2⟩ : Tq B W es ms ga cg ha ch).use
theorem d_ret (a : Option Addr) (len cap : Nat) (w : World) (hlen : len ≤ 1048576) (hc : dw.Code w w.heap.size a len) :
    Calls Try.prog 5 #[.slice a len cap] w fun e w' => ∃ (sn : ByteArray) (nx : Int) (es : List flM.Ms) (ms : List flH.Hd) (ga : Option Addr) (cg : Nat) (ha : Option Addr) (ch : Nat) (o t : Nat) (al : Bool), e = .returned (.tuple #[.agg #[.string sn, .int .i64 nx, .slice ga es.length cg, .slice ha ms.length ch], .int .i64 o, .int .i64 t, .bool al]) ∧ Sm 520 sn es ms ∧ Us w' es ms ga cg ha ch ∧ Below w.heap.size w w' := by
  refine (draw_ret a len cap w hlen hc).mono ?_
  rintro e w' ⟨⟨sn, nx, es, ms, ga, cg, ha, ch, o, t, al, rfl, h1, h2⟩, hb, _⟩
  exact ⟨sn, nx, es, ms, ga, cg, ha, ch, o, t, al, rfl, h1, h2.use, hb⟩
theorem d_pop (a : Option Addr) (len cap : Nat) (w : World) (hlen : len ≤ 1048576) (hc : dw.Code w w.heap.size a len) :
    Calls Try.prog 16 #[.slice a len cap] w fun e w' => ∃ (sn : ByteArray) (nx : Int) (es : List flM.Ms) (ms : List flH.Hd) (ga : Option Addr) (cg : Nat) (ha : Option Addr) (ch : Nat) (o t : Int), e = .returned (.tuple #[.agg #[.string sn, .int .i64 nx, .slice ga es.length cg, .slice ha ms.length ch], .int .i64 o, .int .i64 t]) ∧ Sm 520 sn es ms ∧ Us w' es ms ga cg ha ch ∧ Below w.heap.size w w' := by
  refine (draw_pop a len cap w hlen hc).mono ?_
  rintro e w' ⟨⟨sn, nx, es, ms, ga, cg, ha, ch, o, t, rfl, h1, h2⟩, hb, _⟩
  exact ⟨sn, nx, es, ms, ga, cg, ha, ch, o, t, rfl, h1, h2.use, hb⟩
theorem d_push (a : Option Addr) (len cap : Nat) (w : World) (hlen : len ≤ 1048576) (hc : dw.Code w w.heap.size a len) :
    Calls Try.prog 13 #[.slice a len cap] w fun e w' => ∃ (sn : ByteArray) (nx : Int) (es : List flM.Ms) (ms : List flH.Hd) (ga : Option Addr) (cg : Nat) (ha : Option Addr) (ch : Nat) (x k b : ByteArray), e = .returned (.tuple #[.agg #[.string sn, .int .i64 nx, .slice ga es.length cg, .slice ha ms.length ch], .string x, .string k, .string b]) ∧ Sm 520 sn es ms ∧ Us w' es ms ga cg ha ch ∧ (x.size ≤ 100 ∧ k.size ≤ 100 ∧ b.size ≤ 3001) ∧ Below w.heap.size w w' := by
  refine (draw_push a len cap w hlen hc).mono ?_
  rintro e w' ⟨⟨sn, nx, es, ms, ga, cg, ha, ch, x, k, b, rfl, h1, h2, h3, h4, h5⟩, hb, _⟩
  exact ⟨sn, nx, es, ms, ga, cg, ha, ch, x, k, b, rfl, h1, h2.use, ⟨by omega, h4, h5⟩, hb⟩
theorem t_ret (h : Rq W es ms ga ha) (hs : Sm j sn es ms) (hj : j ≤ 1000) (o t : Int) (al : Bool) : Calls Try.prog 6 #[.agg #[.string sn, .int .i64 nx, .slice ga es.length cg, .slice ha ms.length ch], .int .i64 o, .int .i64 t, .bool al] W fun e w' =>
    ∃ g ce sb cb, e = .returned (.tuple #[.agg #[.string sn, .int .i64 nx, .slice (some ⟨g, 0, none⟩) (qbk.ansR sn nx es ms o t al).length ce, .slice sb (qdp.ansH sn nx es ms o t al).length cb], .int .i64 (qdp.ansC sn nx es ms o t al)]) ∧ Rq w' (qbk.ansR sn nx es ms o t al) (qdp.ansH sn nx es ms o t al) (some ⟨g, 0, none⟩) sb ∧ Below W.heap.size W w' := by
  refine (qri.impl_ret sn nx es ms ga ha cg ch o t al W (hs.fit hj) h.hy h.hh).mono ?_
  rintro e w' ⟨g, ce, h, ao, cb, rfl, _, _, _, _, h1, h2, hb⟩
  exact ⟨g, ce, ao, cb, rfl, ⟨h1.row, h2.row, .inr ⟨g, rfl⟩⟩, hb⟩
theorem s_ret (h : Us W es ms ga cg ha ch) (hs : Sm j sn es ms) (hj : j ≤ 1000) (o t : Int) (al : Bool) : Calls Try.prog 7 #[.agg #[.string sn, .int .i64 nx, .slice ga es.length cg, .slice ha ms.length ch], .int .i64 o, .int .i64 t, .bool al] W fun e w' =>
    ∃ sa ce sb cb, e = .returned (.tuple #[.agg #[.string sn, .int .i64 nx, .slice sa (qbk.ansR sn nx es ms o t al).length ce, .slice sb (qdp.ansH sn nx es ms o t al).length cb], .int .i64 (qdp.ansC sn nx es ms o t al)]) ∧ Rq w' (qbk.ansR sn nx es ms o t al) (qdp.ansH sn nx es ms o t al) sa sb ∧ Below W.heap.size W w' := by
  refine (qrs.spec_ret sn nx es ms ga ha cg ch o t al W (hs.fit hj) h.ny h.nh h.hy h.hh).mono ?_
  rintro e w' ⟨sa, ce, sb, cb, rfl, h1, h2, hb⟩
  exact ⟨sa, ce, sb, cb, rfl, ol_rq h1 h2, hb⟩
theorem t_drop (h : Rq W es ms ga ha) (hs : Sm j sn es ms) (hj : j ≤ 1000) (o t : Int) (al : Bool) : Calls Try.prog 8 #[.agg #[.string sn, .int .i64 nx, .slice ga es.length cg, .slice ha ms.length ch], .int .i64 o, .int .i64 t, .bool al] W fun e w' =>
    ∃ sa ce sb cb, e = .returned (.tuple #[.agg #[.string sn, .int .i64 nx, .slice sa es.length ce, .slice sb (qdp.ansH sn nx es ms o t al).length cb], .int .i64 (qdp.ansC sn nx es ms o t al)]) ∧ Rq w' es (qdp.ansH sn nx es ms o t al) sa sb ∧ Below W.heap.size W w' := by
  refine (qdi.impl_drop sn nx es ms ga ha cg ch o t al W (hs.fit hj) h.hy h.hh).mono ?_
  rintro e w' ⟨g, ce, h, ao, cb, rfl, _, _, _, _, h1, h2, hb⟩
  exact ⟨_, ce, ao, cb, rfl, ⟨h1.row, h2.row, .inr ⟨g, rfl⟩⟩, hb⟩
theorem s_drop (h : Us W es ms ga cg ha ch) (hs : Sm j sn es ms) (hj : j ≤ 1000) (o t : Int) (al : Bool) : Calls Try.prog 9 #[.agg #[.string sn, .int .i64 nx, .slice ga es.length cg, .slice ha ms.length ch], .int .i64 o, .int .i64 t, .bool al] W fun e w' =>
    ∃ sa ce sb cb, e = .returned (.tuple #[.agg #[.string sn, .int .i64 nx, .slice sa es.length ce, .slice sb (qdp.ansH sn nx es ms o t al).length cb], .int .i64 (qdp.ansC sn nx es ms o t al)]) ∧ Rq w' es (qdp.ansH sn nx es ms o t al) sa sb ∧ Below W.heap.size W w' := by
  refine (qds.spec_drop sn nx es ms ga ha cg ch o t al W (hs.fit hj) h.ny h.nh h.hy h.hh).mono ?_
  rintro e w' ⟨sa, ce, sb, cb, rfl, h1, h2, hb⟩
  exact ⟨sa, ce, sb, cb, rfl, ol_rq h1 h2, hb⟩
theorem t_push (h : Rq W es ms ga ha) (hs : Sm j sn es ms) (hj : j ≤ 1000) (x k b : ByteArray) (hx : x.size ≤ 100 ∧ k.size ≤ 100 ∧ b.size ≤ 3001) : Calls Try.prog 14 #[.agg #[.string sn, .int .i64 nx, .slice ga es.length cg, .slice ha ms.length ch], .string x, .string k, .string b] W fun e w' =>
    ∃ g ce sb cb, e = .returned (.tuple #[.agg #[.string sn, .int .i64 (qps.ansN sn nx es ms x k b), .slice (some ⟨g, 0, none⟩) (qps.ansE sn nx es ms x k b).length ce, .slice sb ms.length cb], .bool (qps.fits sn nx es ms x k b)]) ∧ Rq w' (qps.ansE sn nx es ms x k b) ms (some ⟨g, 0, none⟩) sb ∧ Below W.heap.size W w' := by
  refine (qpi.impl_push sn nx es ms ga ha cg ch x k b W (hs.fit hj) (by omega) (by omega) (by omega) h.hy h.hh).mono ?_
  rintro e w' ⟨g, ce, h, cb, rfl, _, _, _, h1, h2, hb⟩
  exact ⟨g, ce, _, cb, rfl, ⟨h1.row, h2.row, .inr ⟨g, rfl⟩⟩, hb⟩
theorem s_push (h : Us W es ms ga cg ha ch) (hs : Sm j sn es ms) (hj : j ≤ 1000) (x k b : ByteArray) (hx : x.size ≤ 100 ∧ k.size ≤ 100 ∧ b.size ≤ 3001) : Calls Try.prog 15 #[.agg #[.string sn, .int .i64 nx, .slice ga es.length cg, .slice ha ms.length ch], .string x, .string k, .string b] W fun e w' =>
    ∃ sa ce sb cb, e = .returned (.tuple #[.agg #[.string sn, .int .i64 (qps.ansN sn nx es ms x k b), .slice sa (qps.ansE sn nx es ms x k b).length ce, .slice sb ms.length cb], .bool (qps.fits sn nx es ms x k b)]) ∧ Rq w' (qps.ansE sn nx es ms x k b) ms sa sb ∧ Below W.heap.size W w' := by
  refine (qps.spec_put sn nx es ms ga ha cg ch x k b W (hs.fit hj) h.ny h.nh (by omega) (by omega) (by omega) h.hy h.hh).mono ?_
  rintro e w' ⟨sa, ce, sb, cb, rfl, h1, h2, hb⟩
  exact ⟨sa, ce, sb, cb, rfl, ol_rq h1 h2, hb⟩
theorem t_pop (h : Rq W es ms ga ha) (hs : Sm j sn es ms) (hj : j ≤ 1000) (o t : Int) : Calls Try.prog 17 #[.agg #[.string sn, .int .i64 nx, .slice ga es.length cg, .slice ha ms.length ch], .int .i64 o, .int .i64 t] W fun e w' =>
    ∃ sa ce sb cb, e = .returned (.tuple #[.agg #[.string sn, .int .i64 nx, .slice sa (qpp.ansR sn nx es ms o t).length ce, .slice sb (qpp.ansH sn nx es ms o t).length cb], .agg #[.int .i64 (qpp.ansM sn nx es ms o t).q, .string (qpp.ansM sn nx es ms o t).x, .string (qpp.ansM sn nx es ms o t).k, .string (qpp.ansM sn nx es ms o t).b, .bool (qpp.ansM sn nx es ms o t).a], .bool (qpp.good sn nx es ms o t)]) ∧ Rq w' (qpp.ansR sn nx es ms o t) (qpp.ansH sn nx es ms o t) sa sb ∧ Below W.heap.size W w' := by
  refine (qoi.impl_pop sn nx es ms ga ha cg ch o t W (hs.fit hj) h.hy h.hh).mono ?_
  rintro e w' ⟨g, ce, h, cb, rfl, _, _, _, h1, h2, hb⟩
  exact ⟨_, ce, _, cb, rfl, ⟨h1.row, h2.row, .inr ⟨g, rfl⟩⟩, hb⟩
theorem s_pop (h : Us W es ms ga cg ha ch) (hs : Sm j sn es ms) (hj : j ≤ 1000) (o t : Int) : Calls Try.prog 18 #[.agg #[.string sn, .int .i64 nx, .slice ga es.length cg, .slice ha ms.length ch], .int .i64 o, .int .i64 t] W fun e w' =>
    ∃ sa ce sb cb, e = .returned (.tuple #[.agg #[.string sn, .int .i64 nx, .slice sa (qpp.ansR sn nx es ms o t).length ce, .slice sb (qpp.ansH sn nx es ms o t).length cb], .agg #[.int .i64 (qpp.ansM sn nx es ms o t).q, .string (qpp.ansM sn nx es ms o t).x, .string (qpp.ansM sn nx es ms o t).k, .string (qpp.ansM sn nx es ms o t).b, .bool (qpp.ansM sn nx es ms o t).a], .bool (qpp.good sn nx es ms o t)]) ∧ Rq w' (qpp.ansR sn nx es ms o t) (qpp.ansH sn nx es ms o t) sa sb ∧ Below W.heap.size W w' := by
  refine (h.pop (hs.fit hj) o t).mono ?_
  rintro e w' ⟨sa, ce, sb, cb, rfl, h1, h2, hb⟩
  exact ⟨sa, ce, sb, cb, rfl, ol_rq h1 h2, hb⟩
theorem p_ok (h : Rq W es ms ga ha) (hs : Sm j sn es ms) (hj : j ≤ 1000) : Calls Try.prog 11 #[.agg #[.string sn, .int .i64 nx, .slice ga es.length cg, .slice ha ms.length ch]] W fun e w' => e = .returned (.bool (okB sn nx es ms)) ∧ Below W.heap.size W w' := qpi.impl_okb sn nx es ms ga ha cg ch W (hs.fit hj) h.hy h.hh
theorem s_ok (h : Rq W es ms ga ha) (hs : Sm j sn es ms) (hj : j ≤ 1000) : Calls Try.prog 12 #[.agg #[.string sn, .int .i64 nx, .slice ga es.length cg, .slice ha ms.length ch]] W fun e w' => e = .returned (.bool (okB sn nx es ms)) ∧ Below W.heap.size W w' := spec_okb sn nx es ms ga ha cg ch W (hs.fit hj) h.hy h.hh
theorem p_same (h : Rq W es ms ga ha) (h' : Rq W es ms ra rb) (hs : Sm j sn es ms) (hj : j ≤ 1000) : Calls Try.prog 10 #[.agg #[.string sn, .int .i64 nx, .slice ga es.length cg, .slice ha ms.length ch], .agg #[.string sn, .int .i64 nx, .slice ra es.length rc, .slice rb ms.length rd]] W fun e w' => e = .returned (.bool true) ∧ Below W.heap.size W w' :=
  smq.same_queue sn nx es ms ga ha ra rb cg ch rc rd W (by have := (hs.fit hj).el; unfold maxLen; omega) (hs.fit hj).ml h.hy h'.hy h.hh h'.hh
theorem bdrewN {B : Nat} {a w : World} (h : Below B a w) (n : Nat) : Below B a (w.drewN n) := ⟨h.os, h.tape, h.output, h.size, h.block⟩
set_option maxHeartbeats 1000000 in
theorem p_depth (nm : ByteArray) (nx : Int) (ra ha : Option Addr) (rn hn rc hc : Nat) (w : World) : Calls Try.prog 19 #[.agg #[.string nm, .int .i64 nx, .slice ra rn rc, .slice ha hn hc]] w fun e w' => e = .returned (.tuple #[.int .i64 rn, .int .i64 hn]) ∧ Below w.heap.size w w' := by
  go_enter Try.func19, Try.ntmps19
  go_wp2
  go_quiet (fail)
  go_wp2
  go_ret2
  exact ⟨rfl, bdrewN ((Below.refl _ _).alloc (Nat.le_refl _) _) _⟩
/-- a message's cells -/
theorem Rq.at {g i : Nat} {e : flM.Ms} (h : Rq W es ms (some ⟨g, 0, none⟩) ha) (he : es[i]? = some e) : W.cell? ⟨g, i * 5, none⟩ = some (.int .i64 e.q) ∧ W.cell? ⟨g, i * 5 + 1, none⟩ = some (.string e.x) ∧ W.cell? ⟨g, i * 5 + 2, none⟩ = some (.string e.k) ∧ W.cell? ⟨g, i * 5 + 3, none⟩ = some (.string e.b) ∧ W.cell? ⟨g, i * 5 + 4, none⟩ = some (.bool e.a) := by
  rcases h.hy with rfl | ⟨b, off, e1, _, hc⟩
  · simp at he
  cases e1
  have h9 := fun k v hk => hc i e he k v hk
  simp only [Nat.zero_add] at h9
  exact ⟨h9 0 _ rfl, h9 1 _ rfl, h9 2 _ rfl, h9 3 _ rfl, h9 4 _ rfl⟩
end
end Go.Proofs.Ytnlcmheahihlpaa.qtt

/- FnQueue, walked: what comes on the way is as it is told, at every code. -/
namespace Go.Proofs.Ytnlcmheahihlpaa.qwk
open Go.ChangeShapes Go.WideShapes Go.ChangeAt Go.RowKit Go.Proofs.Ytnlcmheahihlpaa.fl Go.Proofs.Ytnlcmheahihlpaa.fo Go.Proofs.Ytnlcmheahihlpaa.dw Go.Proofs.Ytnlcmheahihlpaa.qsp Go.Proofs.Ytnlcmheahihlpaa.dlq Go.Proofs.Ytnlcmheahihlpaa.dqs Go.Proofs.Ytnlcmheahihlpaa.qtt
set_option linter.unusedVariables false

theorem neq_same (m : flM.Ms) (w : World) : (binOp .neq 41 (.agg #[.int .i64 m.q, .string m.x, .string m.k, .string m.b, .bool m.a]) (.agg #[.int .i64 m.q, .string m.x, .string m.k, .string m.b, .bool m.a])).run Try.prog w = .ok (.bool false) w := by
  rw [meq.neq_run, meq.same_iff.2 rfl]
  rfl
set_option maxRecDepth 100000 in
set_option maxHeartbeats 12000000 in
theorem walk (a0 : Option Addr) (len0 cap0 : Nat) (w : World) (hcode : dw.Code w w.heap.size a0 len0) :
    Calls Try.prog 3 #[.slice a0 len0 cap0] w fun e w' => e = .returned (.bool true) ∧ Below w.heap.size w w' := by
  by_cases hbig : (1048576 : Int) < len0
  · clear hcode
    go_enter Try.func3, Try.ntmps3
    go_wp2
    go_ret
    exact ⟨rfl, Below.refl _ _⟩
  have hlen : len0 ≤ 1048576 := by omega
  have h1 := d_ret a0 len0 cap0 w hlen hcode
  have HC : Hid (dw.Code w w.heap.size a0 len0) := hcode
  clear hcode
  go_enter Try.func3, Try.ntmps3
  go_wp2_with (first | (go_at_call 4; go_in) | (go_at_call 5; fail))
  refine h1.mono ?_
  rintro e w1 ⟨sn, nx, es, ms, ga, cg, ha, ch, o, t, al, rfl, hsm, hdr, hb1⟩
  have HSM : Hid (Sm 520 sn es ms) := hsm
  have HC_ : Hid (dw.Code w1 w1.heap.size a0 len0) := (HC.out.below hb1 (Nat.le_refl _)).mono (Below.size hb1)
  clear HC
  have HC := HC_
  clear HC_
  have HB : Hid (Below w.heap.size w w1) := hb1
  have HQ : Hid (Us w1 es ms ga cg ha ch) := hdr
  clear h1 hsm hdr hb1
  have hal : Below w1.heap.size w1 (w1.alloc (.cells #[.string sn, .int .i64 nx, .slice ga es.length cg, .slice ha ms.length ch] 27)) := (Below.refl _ _).alloc (Nat.le_refl _) _
  have HC_ : Hid (dw.Code (w1.alloc (.cells #[.string sn, .int .i64 nx, .slice ga es.length cg, .slice ha ms.length ch] 27)) (w1.alloc (.cells #[.string sn, .int .i64 nx, .slice ga es.length cg, .slice ha ms.length ch] 27)).heap.size a0 len0) := (HC.out.below hal (Nat.le_refl _)).mono (Below.size hal)
  have HB_ : Hid (Below w.heap.size w (w1.alloc (.cells #[.string sn, .int .i64 nx, .slice ga es.length cg, .slice ha ms.length ch] 27))) := HB.out.trans (Below.mono hal (Below.size HB.out))
  have HQ_ : Hid (Us (w1.alloc (.cells #[.string sn, .int .i64 nx, .slice ga es.length cg, .slice ha ms.length ch] 27)) es ms ga cg ha ch) := us_below HQ.out hal
  clear HC HB HQ
  have HC := HC_
  have HB := HB_
  have HQ := HQ_
  clear HC_ HB_ HQ_
  have BQ : Hid ((w1.alloc (.cells #[.string sn, .int .i64 nx, .slice ga es.length cg, .slice ha ms.length ch] 27)).heap[w1.heap.size]? = some (.cells #[.string sn, .int .i64 nx, .slice ga es.length cg, .slice ha ms.length ch] 27 (0, 0))) := bnew w1 _ _
  clear hal
  have h2 := t_ret (nx := nx) (cg := cg) (ch := ch) (us_rq HQ.out) HSM.out (by omega) o t al
  have h3' := fun (W : World) (h : Us W es ms ga cg ha ch) => s_ret (nx := nx) h HSM.out (by omega) o t al
  have h4' := fun (W : World) (h : Rq W es ms ga ha) => t_drop (nx := nx) (cg := cg) (ch := ch) h HSM.out (by omega) o t al
  have h5' := fun (W : World) (h : Us W es ms ga cg ha ch) => s_drop (nx := nx) h HSM.out (by omega) o t al
  have hsr := HSM.out.ret (nx := nx) (o := o) (t := t) (a := al)
  have hsd := HSM.out.drop (nx := nx) (o := o) (t := t) (a := al)
  obtain ⟨k, hd1, hd2, hd3, hd4, hd5⟩ := fqp.drop_all sn nx es ms o t al
  obtain ⟨R, hR⟩ : ∃ x, qbk.ansR sn nx es ms o t al = x := ⟨_, rfl⟩
  obtain ⟨H, hH⟩ : ∃ x, qdp.ansH sn nx es ms o t al = x := ⟨_, rfl⟩
  simp only [hR, hH, hd1] at h2 h3' h4' h5' hsr hsd hd2 hd3 hd4 hd5
  have HSMR : Hid (Sm 520 sn R H) := hsr
  have HSMD : Hid (Sm 520 sn es H) := hsd
  have HDR : Hid (H.length + k = ms.length ∧ R.length = es.length + k ∧ (okB sn nx es ms = true → okB sn nx R H = true ∧ okB sn nx es H = true) ∧ (okB sn nx es ms = false → k = 0 ∧ R = es ∧ H = ms)) := ⟨hd2, hd3, hd4, hd5⟩
  clear hR hH hsr hsd hd1 hd2 hd3 hd4 hd5
  have x0 : (w1.alloc (.cells #[.string sn, .int .i64 nx, .slice ga es.length cg, .slice ha ms.length ch] 27)).cell? ⟨w1.heap.size, 0, none⟩ = some (.string sn) := bcell BQ.out rfl
  have x1 : (w1.alloc (.cells #[.string sn, .int .i64 nx, .slice ga es.length cg, .slice ha ms.length ch] 27)).cell? ⟨w1.heap.size, 1, none⟩ = some (.int .i64 nx) := bcell BQ.out rfl
  have x2 : (w1.alloc (.cells #[.string sn, .int .i64 nx, .slice ga es.length cg, .slice ha ms.length ch] 27)).cell? ⟨w1.heap.size, 2, none⟩ = some (.slice ga es.length cg) := bcell BQ.out rfl
  have x3 : (w1.alloc (.cells #[.string sn, .int .i64 nx, .slice ga es.length cg, .slice ha ms.length ch] 27)).cell? ⟨w1.heap.size, 3, none⟩ = some (.slice ha ms.length ch) := bcell BQ.out rfl
  go_wp2_with (go_at_call 6; fail)
  refine h2.mono ?_
  rintro e w2 ⟨rg, rc, rb, rd, rfl, hi2, hb2⟩
  have HC_ : Hid (dw.Code w2 w2.heap.size a0 len0) := (HC.out.below hb2 (Nat.le_refl _)).mono (Below.size hb2)
  have HB_ : Hid (Below w.heap.size w w2) := HB.out.trans (Below.mono hb2 (Below.size HB.out))
  have HQ_ : Hid (Us w2 es ms ga cg ha ch) := us_below HQ.out hb2
  have BQ_ : Hid (w2.heap[w1.heap.size]? = some (.cells #[.string sn, .int .i64 nx, .slice ga es.length cg, .slice ha ms.length ch] 27 (0, 0))) := bstay BQ.out hb2 (Array.getElem?_eq_some_iff.1 BQ.out).1
  clear HC HB HQ BQ
  have HC := HC_
  have HB := HB_
  have HQ := HQ_
  have BQ := BQ_
  clear HC_ HB_ HQ_ BQ_
  clear h2 hb2 x0 x1 x2 x3
  have HR : Hid (Rq w2 R H (some ⟨rg, 0, none⟩) rb) := hi2
  clear hi2
  have hal : Below w2.heap.size w2 (w2.alloc (.cells #[.string sn, .int .i64 nx, .slice (some ⟨rg, 0, none⟩) R.length rc, .slice rb H.length rd] 27)) := (Below.refl _ _).alloc (Nat.le_refl _) _
  have HC_ : Hid (dw.Code (w2.alloc (.cells #[.string sn, .int .i64 nx, .slice (some ⟨rg, 0, none⟩) R.length rc, .slice rb H.length rd] 27)) (w2.alloc (.cells #[.string sn, .int .i64 nx, .slice (some ⟨rg, 0, none⟩) R.length rc, .slice rb H.length rd] 27)).heap.size a0 len0) := (HC.out.below hal (Nat.le_refl _)).mono (Below.size hal)
  have HB_ : Hid (Below w.heap.size w (w2.alloc (.cells #[.string sn, .int .i64 nx, .slice (some ⟨rg, 0, none⟩) R.length rc, .slice rb H.length rd] 27))) := HB.out.trans (Below.mono hal (Below.size HB.out))
  have HQ_ : Hid (Us (w2.alloc (.cells #[.string sn, .int .i64 nx, .slice (some ⟨rg, 0, none⟩) R.length rc, .slice rb H.length rd] 27)) es ms ga cg ha ch) := us_below HQ.out hal
  have BQ_ : Hid ((w2.alloc (.cells #[.string sn, .int .i64 nx, .slice (some ⟨rg, 0, none⟩) R.length rc, .slice rb H.length rd] 27)).heap[w1.heap.size]? = some (.cells #[.string sn, .int .i64 nx, .slice ga es.length cg, .slice ha ms.length ch] 27 (0, 0))) := bstay BQ.out hal (Array.getElem?_eq_some_iff.1 BQ.out).1
  have HR_ : Hid (Rq (w2.alloc (.cells #[.string sn, .int .i64 nx, .slice (some ⟨rg, 0, none⟩) R.length rc, .slice rb H.length rd] 27)) R H (some ⟨rg, 0, none⟩) rb) := HR.out.below hal
  clear HC HB HQ BQ HR
  have HC := HC_
  have HB := HB_
  have HQ := HQ_
  have BQ := BQ_
  have HR := HR_
  clear HC_ HB_ HQ_ BQ_ HR_
  have BR : Hid ((w2.alloc (.cells #[.string sn, .int .i64 nx, .slice (some ⟨rg, 0, none⟩) R.length rc, .slice rb H.length rd] 27)).heap[w2.heap.size]? = some (.cells #[.string sn, .int .i64 nx, .slice (some ⟨rg, 0, none⟩) R.length rc, .slice rb H.length rd] 27 (0, 0))) := bnew w2 _ _
  clear hal
  have x0 : (w2.alloc (.cells #[.string sn, .int .i64 nx, .slice (some ⟨rg, 0, none⟩) R.length rc, .slice rb H.length rd] 27)).cell? ⟨w1.heap.size, 0, none⟩ = some (.string sn) := bcell BQ.out rfl
  have x1 : (w2.alloc (.cells #[.string sn, .int .i64 nx, .slice (some ⟨rg, 0, none⟩) R.length rc, .slice rb H.length rd] 27)).cell? ⟨w1.heap.size, 1, none⟩ = some (.int .i64 nx) := bcell BQ.out rfl
  have x2 : (w2.alloc (.cells #[.string sn, .int .i64 nx, .slice (some ⟨rg, 0, none⟩) R.length rc, .slice rb H.length rd] 27)).cell? ⟨w1.heap.size, 2, none⟩ = some (.slice ga es.length cg) := bcell BQ.out rfl
  have x3 : (w2.alloc (.cells #[.string sn, .int .i64 nx, .slice (some ⟨rg, 0, none⟩) R.length rc, .slice rb H.length rd] 27)).cell? ⟨w1.heap.size, 3, none⟩ = some (.slice ha ms.length ch) := bcell BQ.out rfl
  have h3 := h3' _ HQ.out
  clear h3'
  go_wp2_with (go_at_call 7; fail)
  refine h3.mono ?_
  rintro e w3 ⟨wa, wc, wb, wd, rfl, hi3, hb3⟩
  have HC_ : Hid (dw.Code w3 w3.heap.size a0 len0) := (HC.out.below hb3 (Nat.le_refl _)).mono (Below.size hb3)
  have HB_ : Hid (Below w.heap.size w w3) := HB.out.trans (Below.mono hb3 (Below.size HB.out))
  have HQ_ : Hid (Us w3 es ms ga cg ha ch) := us_below HQ.out hb3
  have BQ_ : Hid (w3.heap[w1.heap.size]? = some (.cells #[.string sn, .int .i64 nx, .slice ga es.length cg, .slice ha ms.length ch] 27 (0, 0))) := bstay BQ.out hb3 (Array.getElem?_eq_some_iff.1 BQ.out).1
  have HR_ : Hid (Rq w3 R H (some ⟨rg, 0, none⟩) rb) := HR.out.below hb3
  have BR_ : Hid (w3.heap[w2.heap.size]? = some (.cells #[.string sn, .int .i64 nx, .slice (some ⟨rg, 0, none⟩) R.length rc, .slice rb H.length rd] 27 (0, 0))) := bstay BR.out hb3 (Array.getElem?_eq_some_iff.1 BR.out).1
  clear HC HB HQ BQ HR BR
  have HC := HC_
  have HB := HB_
  have HQ := HQ_
  have BQ := BQ_
  have HR := HR_
  have BR := BR_
  clear HC_ HB_ HQ_ BQ_ HR_ BR_
  clear h3 hb3 x0 x1 x2 x3
  have HW : Hid (Rq w3 R H wa wb) := hi3
  clear hi3
  have hal : Below w3.heap.size w3 (w3.alloc (.cells #[.string sn, .int .i64 nx, .slice wa R.length wc, .slice wb H.length wd] 27)) := (Below.refl _ _).alloc (Nat.le_refl _) _
  have HC_ : Hid (dw.Code (w3.alloc (.cells #[.string sn, .int .i64 nx, .slice wa R.length wc, .slice wb H.length wd] 27)) (w3.alloc (.cells #[.string sn, .int .i64 nx, .slice wa R.length wc, .slice wb H.length wd] 27)).heap.size a0 len0) := (HC.out.below hal (Nat.le_refl _)).mono (Below.size hal)
  have HB_ : Hid (Below w.heap.size w (w3.alloc (.cells #[.string sn, .int .i64 nx, .slice wa R.length wc, .slice wb H.length wd] 27))) := HB.out.trans (Below.mono hal (Below.size HB.out))
  have HQ_ : Hid (Us (w3.alloc (.cells #[.string sn, .int .i64 nx, .slice wa R.length wc, .slice wb H.length wd] 27)) es ms ga cg ha ch) := us_below HQ.out hal
  have BQ_ : Hid ((w3.alloc (.cells #[.string sn, .int .i64 nx, .slice wa R.length wc, .slice wb H.length wd] 27)).heap[w1.heap.size]? = some (.cells #[.string sn, .int .i64 nx, .slice ga es.length cg, .slice ha ms.length ch] 27 (0, 0))) := bstay BQ.out hal (Array.getElem?_eq_some_iff.1 BQ.out).1
  have HR_ : Hid (Rq (w3.alloc (.cells #[.string sn, .int .i64 nx, .slice wa R.length wc, .slice wb H.length wd] 27)) R H (some ⟨rg, 0, none⟩) rb) := HR.out.below hal
  have BR_ : Hid ((w3.alloc (.cells #[.string sn, .int .i64 nx, .slice wa R.length wc, .slice wb H.length wd] 27)).heap[w2.heap.size]? = some (.cells #[.string sn, .int .i64 nx, .slice (some ⟨rg, 0, none⟩) R.length rc, .slice rb H.length rd] 27 (0, 0))) := bstay BR.out hal (Array.getElem?_eq_some_iff.1 BR.out).1
  have HW_ : Hid (Rq (w3.alloc (.cells #[.string sn, .int .i64 nx, .slice wa R.length wc, .slice wb H.length wd] 27)) R H wa wb) := HW.out.below hal
  clear HC HB HQ BQ HR BR HW
  have HC := HC_
  have HB := HB_
  have HQ := HQ_
  have BQ := BQ_
  have HR := HR_
  have BR := BR_
  have HW := HW_
  clear HC_ HB_ HQ_ BQ_ HR_ BR_ HW_
  have BW : Hid ((w3.alloc (.cells #[.string sn, .int .i64 nx, .slice wa R.length wc, .slice wb H.length wd] 27)).heap[w3.heap.size]? = some (.cells #[.string sn, .int .i64 nx, .slice wa R.length wc, .slice wb H.length wd] 27 (0, 0))) := bnew w3 _ _
  clear hal
  have x0 : (w3.alloc (.cells #[.string sn, .int .i64 nx, .slice wa R.length wc, .slice wb H.length wd] 27)).cell? ⟨w1.heap.size, 0, none⟩ = some (.string sn) := bcell BQ.out rfl
  have x1 : (w3.alloc (.cells #[.string sn, .int .i64 nx, .slice wa R.length wc, .slice wb H.length wd] 27)).cell? ⟨w1.heap.size, 1, none⟩ = some (.int .i64 nx) := bcell BQ.out rfl
  have x2 : (w3.alloc (.cells #[.string sn, .int .i64 nx, .slice wa R.length wc, .slice wb H.length wd] 27)).cell? ⟨w1.heap.size, 2, none⟩ = some (.slice ga es.length cg) := bcell BQ.out rfl
  have x3 : (w3.alloc (.cells #[.string sn, .int .i64 nx, .slice wa R.length wc, .slice wb H.length wd] 27)).cell? ⟨w1.heap.size, 3, none⟩ = some (.slice ha ms.length ch) := bcell BQ.out rfl
  have h4 := h4' _ (us_rq HQ.out)
  clear h4'
  go_wp2_with (go_at_call 8; fail)
  refine h4.mono ?_
  rintro e w4 ⟨da, dc, db, dd, rfl, hi4, hb4⟩
  have HC_ : Hid (dw.Code w4 w4.heap.size a0 len0) := (HC.out.below hb4 (Nat.le_refl _)).mono (Below.size hb4)
  have HB_ : Hid (Below w.heap.size w w4) := HB.out.trans (Below.mono hb4 (Below.size HB.out))
  have HQ_ : Hid (Us w4 es ms ga cg ha ch) := us_below HQ.out hb4
  have BQ_ : Hid (w4.heap[w1.heap.size]? = some (.cells #[.string sn, .int .i64 nx, .slice ga es.length cg, .slice ha ms.length ch] 27 (0, 0))) := bstay BQ.out hb4 (Array.getElem?_eq_some_iff.1 BQ.out).1
  have HR_ : Hid (Rq w4 R H (some ⟨rg, 0, none⟩) rb) := HR.out.below hb4
  have BR_ : Hid (w4.heap[w2.heap.size]? = some (.cells #[.string sn, .int .i64 nx, .slice (some ⟨rg, 0, none⟩) R.length rc, .slice rb H.length rd] 27 (0, 0))) := bstay BR.out hb4 (Array.getElem?_eq_some_iff.1 BR.out).1
  have HW_ : Hid (Rq w4 R H wa wb) := HW.out.below hb4
  have BW_ : Hid (w4.heap[w3.heap.size]? = some (.cells #[.string sn, .int .i64 nx, .slice wa R.length wc, .slice wb H.length wd] 27 (0, 0))) := bstay BW.out hb4 (Array.getElem?_eq_some_iff.1 BW.out).1
  clear HC HB HQ BQ HR BR HW BW
  have HC := HC_
  have HB := HB_
  have HQ := HQ_
  have BQ := BQ_
  have HR := HR_
  have BR := BR_
  have HW := HW_
  have BW := BW_
  clear HC_ HB_ HQ_ BQ_ HR_ BR_ HW_ BW_
  clear h4 hb4 x0 x1 x2 x3
  have HD : Hid (Rq w4 es H da db) := hi4
  clear hi4
  have hal : Below w4.heap.size w4 (w4.alloc (.cells #[.string sn, .int .i64 nx, .slice da es.length dc, .slice db H.length dd] 27)) := (Below.refl _ _).alloc (Nat.le_refl _) _
  have HC_ : Hid (dw.Code (w4.alloc (.cells #[.string sn, .int .i64 nx, .slice da es.length dc, .slice db H.length dd] 27)) (w4.alloc (.cells #[.string sn, .int .i64 nx, .slice da es.length dc, .slice db H.length dd] 27)).heap.size a0 len0) := (HC.out.below hal (Nat.le_refl _)).mono (Below.size hal)
  have HB_ : Hid (Below w.heap.size w (w4.alloc (.cells #[.string sn, .int .i64 nx, .slice da es.length dc, .slice db H.length dd] 27))) := HB.out.trans (Below.mono hal (Below.size HB.out))
  have HQ_ : Hid (Us (w4.alloc (.cells #[.string sn, .int .i64 nx, .slice da es.length dc, .slice db H.length dd] 27)) es ms ga cg ha ch) := us_below HQ.out hal
  have BQ_ : Hid ((w4.alloc (.cells #[.string sn, .int .i64 nx, .slice da es.length dc, .slice db H.length dd] 27)).heap[w1.heap.size]? = some (.cells #[.string sn, .int .i64 nx, .slice ga es.length cg, .slice ha ms.length ch] 27 (0, 0))) := bstay BQ.out hal (Array.getElem?_eq_some_iff.1 BQ.out).1
  have HR_ : Hid (Rq (w4.alloc (.cells #[.string sn, .int .i64 nx, .slice da es.length dc, .slice db H.length dd] 27)) R H (some ⟨rg, 0, none⟩) rb) := HR.out.below hal
  have BR_ : Hid ((w4.alloc (.cells #[.string sn, .int .i64 nx, .slice da es.length dc, .slice db H.length dd] 27)).heap[w2.heap.size]? = some (.cells #[.string sn, .int .i64 nx, .slice (some ⟨rg, 0, none⟩) R.length rc, .slice rb H.length rd] 27 (0, 0))) := bstay BR.out hal (Array.getElem?_eq_some_iff.1 BR.out).1
  have HW_ : Hid (Rq (w4.alloc (.cells #[.string sn, .int .i64 nx, .slice da es.length dc, .slice db H.length dd] 27)) R H wa wb) := HW.out.below hal
  have BW_ : Hid ((w4.alloc (.cells #[.string sn, .int .i64 nx, .slice da es.length dc, .slice db H.length dd] 27)).heap[w3.heap.size]? = some (.cells #[.string sn, .int .i64 nx, .slice wa R.length wc, .slice wb H.length wd] 27 (0, 0))) := bstay BW.out hal (Array.getElem?_eq_some_iff.1 BW.out).1
  have HD_ : Hid (Rq (w4.alloc (.cells #[.string sn, .int .i64 nx, .slice da es.length dc, .slice db H.length dd] 27)) es H da db) := HD.out.below hal
  clear HC HB HQ BQ HR BR HW BW HD
  have HC := HC_
  have HB := HB_
  have HQ := HQ_
  have BQ := BQ_
  have HR := HR_
  have BR := BR_
  have HW := HW_
  have BW := BW_
  have HD := HD_
  clear HC_ HB_ HQ_ BQ_ HR_ BR_ HW_ BW_ HD_
  have BD : Hid ((w4.alloc (.cells #[.string sn, .int .i64 nx, .slice da es.length dc, .slice db H.length dd] 27)).heap[w4.heap.size]? = some (.cells #[.string sn, .int .i64 nx, .slice da es.length dc, .slice db H.length dd] 27 (0, 0))) := bnew w4 _ _
  clear hal
  have x0 : (w4.alloc (.cells #[.string sn, .int .i64 nx, .slice da es.length dc, .slice db H.length dd] 27)).cell? ⟨w1.heap.size, 0, none⟩ = some (.string sn) := bcell BQ.out rfl
  have x1 : (w4.alloc (.cells #[.string sn, .int .i64 nx, .slice da es.length dc, .slice db H.length dd] 27)).cell? ⟨w1.heap.size, 1, none⟩ = some (.int .i64 nx) := bcell BQ.out rfl
  have x2 : (w4.alloc (.cells #[.string sn, .int .i64 nx, .slice da es.length dc, .slice db H.length dd] 27)).cell? ⟨w1.heap.size, 2, none⟩ = some (.slice ga es.length cg) := bcell BQ.out rfl
  have x3 : (w4.alloc (.cells #[.string sn, .int .i64 nx, .slice da es.length dc, .slice db H.length dd] 27)).cell? ⟨w1.heap.size, 3, none⟩ = some (.slice ha ms.length ch) := bcell BQ.out rfl
  have h5 := h5' _ HQ.out
  clear h5'
  go_wp2_with (go_at_call 9; fail)
  refine h5.mono ?_
  rintro e w5 ⟨ma, mc, mb, md, rfl, hi5, hb5⟩
  have HC_ : Hid (dw.Code w5 w5.heap.size a0 len0) := (HC.out.below hb5 (Nat.le_refl _)).mono (Below.size hb5)
  have HB_ : Hid (Below w.heap.size w w5) := HB.out.trans (Below.mono hb5 (Below.size HB.out))
  have HQ_ : Hid (Us w5 es ms ga cg ha ch) := us_below HQ.out hb5
  have BQ_ : Hid (w5.heap[w1.heap.size]? = some (.cells #[.string sn, .int .i64 nx, .slice ga es.length cg, .slice ha ms.length ch] 27 (0, 0))) := bstay BQ.out hb5 (Array.getElem?_eq_some_iff.1 BQ.out).1
  have HR_ : Hid (Rq w5 R H (some ⟨rg, 0, none⟩) rb) := HR.out.below hb5
  have BR_ : Hid (w5.heap[w2.heap.size]? = some (.cells #[.string sn, .int .i64 nx, .slice (some ⟨rg, 0, none⟩) R.length rc, .slice rb H.length rd] 27 (0, 0))) := bstay BR.out hb5 (Array.getElem?_eq_some_iff.1 BR.out).1
  have HW_ : Hid (Rq w5 R H wa wb) := HW.out.below hb5
  have BW_ : Hid (w5.heap[w3.heap.size]? = some (.cells #[.string sn, .int .i64 nx, .slice wa R.length wc, .slice wb H.length wd] 27 (0, 0))) := bstay BW.out hb5 (Array.getElem?_eq_some_iff.1 BW.out).1
  have HD_ : Hid (Rq w5 es H da db) := HD.out.below hb5
  have BD_ : Hid (w5.heap[w4.heap.size]? = some (.cells #[.string sn, .int .i64 nx, .slice da es.length dc, .slice db H.length dd] 27 (0, 0))) := bstay BD.out hb5 (Array.getElem?_eq_some_iff.1 BD.out).1
  clear HC HB HQ BQ HR BR HW BW HD BD
  have HC := HC_
  have HB := HB_
  have HQ := HQ_
  have BQ := BQ_
  have HR := HR_
  have BR := BR_
  have HW := HW_
  have BW := BW_
  have HD := HD_
  have BD := BD_
  clear HC_ HB_ HQ_ BQ_ HR_ BR_ HW_ BW_ HD_ BD_
  clear h5 hb5 x0 x1 x2 x3
  have HM : Hid (Rq w5 es H ma mb) := hi5
  clear hi5
  have hal : Below w5.heap.size w5 (w5.alloc (.cells #[.string sn, .int .i64 nx, .slice ma es.length mc, .slice mb H.length md] 27)) := (Below.refl _ _).alloc (Nat.le_refl _) _
  have HC_ : Hid (dw.Code (w5.alloc (.cells #[.string sn, .int .i64 nx, .slice ma es.length mc, .slice mb H.length md] 27)) (w5.alloc (.cells #[.string sn, .int .i64 nx, .slice ma es.length mc, .slice mb H.length md] 27)).heap.size a0 len0) := (HC.out.below hal (Nat.le_refl _)).mono (Below.size hal)
  have HB_ : Hid (Below w.heap.size w (w5.alloc (.cells #[.string sn, .int .i64 nx, .slice ma es.length mc, .slice mb H.length md] 27))) := HB.out.trans (Below.mono hal (Below.size HB.out))
  have HQ_ : Hid (Us (w5.alloc (.cells #[.string sn, .int .i64 nx, .slice ma es.length mc, .slice mb H.length md] 27)) es ms ga cg ha ch) := us_below HQ.out hal
  have BQ_ : Hid ((w5.alloc (.cells #[.string sn, .int .i64 nx, .slice ma es.length mc, .slice mb H.length md] 27)).heap[w1.heap.size]? = some (.cells #[.string sn, .int .i64 nx, .slice ga es.length cg, .slice ha ms.length ch] 27 (0, 0))) := bstay BQ.out hal (Array.getElem?_eq_some_iff.1 BQ.out).1
  have HR_ : Hid (Rq (w5.alloc (.cells #[.string sn, .int .i64 nx, .slice ma es.length mc, .slice mb H.length md] 27)) R H (some ⟨rg, 0, none⟩) rb) := HR.out.below hal
  have BR_ : Hid ((w5.alloc (.cells #[.string sn, .int .i64 nx, .slice ma es.length mc, .slice mb H.length md] 27)).heap[w2.heap.size]? = some (.cells #[.string sn, .int .i64 nx, .slice (some ⟨rg, 0, none⟩) R.length rc, .slice rb H.length rd] 27 (0, 0))) := bstay BR.out hal (Array.getElem?_eq_some_iff.1 BR.out).1
  have HW_ : Hid (Rq (w5.alloc (.cells #[.string sn, .int .i64 nx, .slice ma es.length mc, .slice mb H.length md] 27)) R H wa wb) := HW.out.below hal
  have BW_ : Hid ((w5.alloc (.cells #[.string sn, .int .i64 nx, .slice ma es.length mc, .slice mb H.length md] 27)).heap[w3.heap.size]? = some (.cells #[.string sn, .int .i64 nx, .slice wa R.length wc, .slice wb H.length wd] 27 (0, 0))) := bstay BW.out hal (Array.getElem?_eq_some_iff.1 BW.out).1
  have HD_ : Hid (Rq (w5.alloc (.cells #[.string sn, .int .i64 nx, .slice ma es.length mc, .slice mb H.length md] 27)) es H da db) := HD.out.below hal
  have BD_ : Hid ((w5.alloc (.cells #[.string sn, .int .i64 nx, .slice ma es.length mc, .slice mb H.length md] 27)).heap[w4.heap.size]? = some (.cells #[.string sn, .int .i64 nx, .slice da es.length dc, .slice db H.length dd] 27 (0, 0))) := bstay BD.out hal (Array.getElem?_eq_some_iff.1 BD.out).1
  have HM_ : Hid (Rq (w5.alloc (.cells #[.string sn, .int .i64 nx, .slice ma es.length mc, .slice mb H.length md] 27)) es H ma mb) := HM.out.below hal
  clear HC HB HQ BQ HR BR HW BW HD BD HM
  have HC := HC_
  have HB := HB_
  have HQ := HQ_
  have BQ := BQ_
  have HR := HR_
  have BR := BR_
  have HW := HW_
  have BW := BW_
  have HD := HD_
  have BD := BD_
  have HM := HM_
  clear HC_ HB_ HQ_ BQ_ HR_ BR_ HW_ BW_ HD_ BD_ HM_
  have BM : Hid ((w5.alloc (.cells #[.string sn, .int .i64 nx, .slice ma es.length mc, .slice mb H.length md] 27)).heap[w5.heap.size]? = some (.cells #[.string sn, .int .i64 nx, .slice ma es.length mc, .slice mb H.length md] 27 (0, 0))) := bnew w5 _ _
  clear hal
  obtain ⟨ob, hob⟩ : ∃ x, okB sn nx es ms = x := ⟨_, rfl⟩
  have HOB : Hid (okB sn nx es ms = ob) := hob
  clear hob
  go_wp2
  obtain ⟨w6, hw6⟩ : ∃ x, (w5.alloc (.cells #[.string sn, .int .i64 nx, .slice ma es.length mc, .slice mb H.length md] 27)) = x := ⟨_, rfl⟩
  rw [hw6] at HC HB HQ BQ HR BR HW BW HD BD HM BM ⊢
  clear hw6
  have x0 : ∀ N : qi.Cls w6, N.x.cell? ⟨w1.heap.size, 0, none⟩ = some (.string sn) := fun N => bcell (bstay BQ.out N.h (Array.getElem?_eq_some_iff.1 BQ.out).1) rfl
  have x1 : ∀ N : qi.Cls w6, N.x.cell? ⟨w1.heap.size, 1, none⟩ = some (.int .i64 nx) := fun N => bcell (bstay BQ.out N.h (Array.getElem?_eq_some_iff.1 BQ.out).1) rfl
  have x2 : ∀ N : qi.Cls w6, N.x.cell? ⟨w1.heap.size, 2, none⟩ = some (.slice ga es.length cg) := fun N => bcell (bstay BQ.out N.h (Array.getElem?_eq_some_iff.1 BQ.out).1) rfl
  have x3 : ∀ N : qi.Cls w6, N.x.cell? ⟨w1.heap.size, 3, none⟩ = some (.slice ha ms.length ch) := fun N => bcell (bstay BQ.out N.h (Array.getElem?_eq_some_iff.1 BQ.out).1) rfl
  have y0 : ∀ N : qi.Cls w6, N.x.cell? ⟨w2.heap.size, 0, none⟩ = some (.string sn) := fun N => bcell (bstay BR.out N.h (Array.getElem?_eq_some_iff.1 BR.out).1) rfl
  have y1 : ∀ N : qi.Cls w6, N.x.cell? ⟨w2.heap.size, 1, none⟩ = some (.int .i64 nx) := fun N => bcell (bstay BR.out N.h (Array.getElem?_eq_some_iff.1 BR.out).1) rfl
  have y2 : ∀ N : qi.Cls w6, N.x.cell? ⟨w2.heap.size, 2, none⟩ = some (.slice (some ⟨rg, 0, none⟩) R.length rc) := fun N => bcell (bstay BR.out N.h (Array.getElem?_eq_some_iff.1 BR.out).1) rfl
  have y3 : ∀ N : qi.Cls w6, N.x.cell? ⟨w2.heap.size, 3, none⟩ = some (.slice rb H.length rd) := fun N => bcell (bstay BR.out N.h (Array.getElem?_eq_some_iff.1 BR.out).1) rfl
  have z0 : ∀ N : qi.Cls w6, N.x.cell? ⟨w3.heap.size, 0, none⟩ = some (.string sn) := fun N => bcell (bstay BW.out N.h (Array.getElem?_eq_some_iff.1 BW.out).1) rfl
  have z1 : ∀ N : qi.Cls w6, N.x.cell? ⟨w3.heap.size, 1, none⟩ = some (.int .i64 nx) := fun N => bcell (bstay BW.out N.h (Array.getElem?_eq_some_iff.1 BW.out).1) rfl
  have z2 : ∀ N : qi.Cls w6, N.x.cell? ⟨w3.heap.size, 2, none⟩ = some (.slice wa R.length wc) := fun N => bcell (bstay BW.out N.h (Array.getElem?_eq_some_iff.1 BW.out).1) rfl
  have z3 : ∀ N : qi.Cls w6, N.x.cell? ⟨w3.heap.size, 3, none⟩ = some (.slice wb H.length wd) := fun N => bcell (bstay BW.out N.h (Array.getElem?_eq_some_iff.1 BW.out).1) rfl
  have u0 : ∀ N : qi.Cls w6, N.x.cell? ⟨w4.heap.size, 0, none⟩ = some (.string sn) := fun N => bcell (bstay BD.out N.h (Array.getElem?_eq_some_iff.1 BD.out).1) rfl
  have u1 : ∀ N : qi.Cls w6, N.x.cell? ⟨w4.heap.size, 1, none⟩ = some (.int .i64 nx) := fun N => bcell (bstay BD.out N.h (Array.getElem?_eq_some_iff.1 BD.out).1) rfl
  have u2 : ∀ N : qi.Cls w6, N.x.cell? ⟨w4.heap.size, 2, none⟩ = some (.slice da es.length dc) := fun N => bcell (bstay BD.out N.h (Array.getElem?_eq_some_iff.1 BD.out).1) rfl
  have u3 : ∀ N : qi.Cls w6, N.x.cell? ⟨w4.heap.size, 3, none⟩ = some (.slice db H.length dd) := fun N => bcell (bstay BD.out N.h (Array.getElem?_eq_some_iff.1 BD.out).1) rfl
  have r0 : ∀ N : qi.Cls w6, N.x.cell? ⟨w5.heap.size, 0, none⟩ = some (.string sn) := fun N => bcell (bstay BM.out N.h (Array.getElem?_eq_some_iff.1 BM.out).1) rfl
  have r1 : ∀ N : qi.Cls w6, N.x.cell? ⟨w5.heap.size, 1, none⟩ = some (.int .i64 nx) := fun N => bcell (bstay BM.out N.h (Array.getElem?_eq_some_iff.1 BM.out).1) rfl
  have r2 : ∀ N : qi.Cls w6, N.x.cell? ⟨w5.heap.size, 2, none⟩ = some (.slice ma es.length mc) := fun N => bcell (bstay BM.out N.h (Array.getElem?_eq_some_iff.1 BM.out).1) rfl
  have r3 : ∀ N : qi.Cls w6, N.x.cell? ⟨w5.heap.size, 3, none⟩ = some (.slice mb H.length md) := fun N => bcell (bstay BM.out N.h (Array.getElem?_eq_some_iff.1 BM.out).1) rfl
  have k1 : ∀ N : qi.Cls w6, Calls Try.prog 10 #[.agg #[.string sn, .int .i64 nx, .slice (some ⟨rg, 0, none⟩) R.length rc, .slice rb H.length rd], .agg #[.string sn, .int .i64 nx, .slice wa R.length wc, .slice wb H.length wd]] N.x fun e w' => e = .returned (.bool true) ∧ qi.T w6 w' := fun N => (p_same (HR.out.below N.h) (HW.out.below N.h) HSMR.out (by omega)).mono fun e w' ⟨h1, h2⟩ => ⟨h1, Below.trans N.h (Below.mono h2 (Below.size N.h))⟩
  have k2 : ∀ N : qi.Cls w6, Calls Try.prog 10 #[.agg #[.string sn, .int .i64 nx, .slice da es.length dc, .slice db H.length dd], .agg #[.string sn, .int .i64 nx, .slice ma es.length mc, .slice mb H.length md]] N.x fun e w' => e = .returned (.bool true) ∧ qi.T w6 w' := fun N => (p_same (HD.out.below N.h) (HM.out.below N.h) HSMD.out (by omega)).mono fun e w' ⟨h1, h2⟩ => ⟨h1, Below.trans N.h (Below.mono h2 (Below.size N.h))⟩
  have k3' : ∀ N : qi.Cls w6, Calls Try.prog 11 #[.agg #[.string sn, .int .i64 nx, .slice ga es.length cg, .slice ha ms.length ch]] N.x fun e w' => e = .returned (.bool ob) ∧ Below N.x.heap.size N.x w' := fun N => by rw [← HOB.out]; exact p_ok (us_rq (us_below HQ.out N.h)) HSM.out (by omega)
  have k4' : ∀ N : qi.Cls w6, Calls Try.prog 12 #[.agg #[.string sn, .int .i64 nx, .slice ga es.length cg, .slice ha ms.length ch]] N.x fun e w' => e = .returned (.bool ob) ∧ Below N.x.heap.size N.x w' := fun N => by rw [← HOB.out]; exact s_ok (us_rq (us_below HQ.out N.h)) HSM.out (by omega)
  have k3 : ∀ N : qi.Cls w6, Calls Try.prog 11 #[.agg #[.string sn, .int .i64 nx, .slice ga es.length cg, .slice ha ms.length ch]] N.x fun e w' => e = .returned (.bool ob) ∧ qi.T w6 w' := fun N => (k3' N).mono fun e w' ⟨h1, h2⟩ => ⟨h1, Below.trans N.h (Below.mono h2 (Below.size N.h))⟩
  have k4 : ∀ N : qi.Cls w6, Calls Try.prog 12 #[.agg #[.string sn, .int .i64 nx, .slice ga es.length cg, .slice ha ms.length ch]] N.x fun e w' => e = .returned (.bool ob) ∧ qi.T w6 w' := fun N => (k4' N).mono fun e w' ⟨h1, h2⟩ => ⟨h1, Below.trans N.h (Below.mono h2 (Below.size N.h))⟩
  clear k3' k4'
  refine qi.region_in w6 (qi.T.refl w6) (by kernel_rfl) (by kernel_rfl) ?_
  repeat (go_big_quiet_step (first | (go_at_call 10; with_reducible refine (k1 _).mono ?_; rintro e wx ⟨rfl, hTx⟩; exact ⟨rfl, ⟨wx, hTx⟩, rfl⟩) | (go_at_call 10; with_reducible refine (k2 _).mono ?_; rintro e wx ⟨rfl, hTx⟩; exact ⟨rfl, ⟨wx, hTx⟩, rfl⟩) | (go_at_call 11; with_reducible refine (k3 _).mono ?_; rintro e wx ⟨rfl, hTx⟩; exact ⟨rfl, ⟨wx, hTx⟩, rfl⟩) | (go_at_call 12; with_reducible refine (k4 _).mono ?_; rintro e wx ⟨rfl, hTx⟩; exact ⟨rfl, ⟨wx, hTx⟩, rfl⟩)))
  refine wpQuiet_nil ?_
  rintro _ ⟨N, rfl⟩
  have hN := N.h
  generalize N.x = v1 at hN ⊢
  clear N k1 k2 k3 k4 x0 x1 x2 x3 y0 y1 y2 y3 z0 z1 z2 z3 u0 u1 u2 u3 r0 r1 r2 r3
  have hbN : Below w6.heap.size w6 v1 := hN
  have HC_ : Hid (dw.Code v1 v1.heap.size a0 len0) := (HC.out.below hbN (Nat.le_refl _)).mono (Below.size hbN)
  have HB_ : Hid (Below w.heap.size w v1) := HB.out.trans (Below.mono hbN (Below.size HB.out))
  have HQ_ : Hid (Us v1 es ms ga cg ha ch) := us_below HQ.out hbN
  have BQ_ : Hid (v1.heap[w1.heap.size]? = some (.cells #[.string sn, .int .i64 nx, .slice ga es.length cg, .slice ha ms.length ch] 27 (0, 0))) := bstay BQ.out hbN (Array.getElem?_eq_some_iff.1 BQ.out).1
  have HR_ : Hid (Rq v1 R H (some ⟨rg, 0, none⟩) rb) := HR.out.below hbN
  have BR_ : Hid (v1.heap[w2.heap.size]? = some (.cells #[.string sn, .int .i64 nx, .slice (some ⟨rg, 0, none⟩) R.length rc, .slice rb H.length rd] 27 (0, 0))) := bstay BR.out hbN (Array.getElem?_eq_some_iff.1 BR.out).1
  have HW_ : Hid (Rq v1 R H wa wb) := HW.out.below hbN
  have BW_ : Hid (v1.heap[w3.heap.size]? = some (.cells #[.string sn, .int .i64 nx, .slice wa R.length wc, .slice wb H.length wd] 27 (0, 0))) := bstay BW.out hbN (Array.getElem?_eq_some_iff.1 BW.out).1
  have HD_ : Hid (Rq v1 es H da db) := HD.out.below hbN
  have BD_ : Hid (v1.heap[w4.heap.size]? = some (.cells #[.string sn, .int .i64 nx, .slice da es.length dc, .slice db H.length dd] 27 (0, 0))) := bstay BD.out hbN (Array.getElem?_eq_some_iff.1 BD.out).1
  have HM_ : Hid (Rq v1 es H ma mb) := HM.out.below hbN
  have BM_ : Hid (v1.heap[w5.heap.size]? = some (.cells #[.string sn, .int .i64 nx, .slice ma es.length mc, .slice mb H.length md] 27 (0, 0))) := bstay BM.out hbN (Array.getElem?_eq_some_iff.1 BM.out).1
  clear HC HB HQ BQ HR BR HW BW HD BD HM BM
  have HC := HC_
  have HB := HB_
  have HQ := HQ_
  have BQ := BQ_
  have HR := HR_
  have BR := BR_
  have HW := HW_
  have BW := BW_
  have HD := HD_
  have BD := BD_
  have HM := HM_
  have BM := BM_
  clear HC_ HB_ HQ_ BQ_ HR_ BR_ HW_ BW_ HD_ BD_ HM_ BM_
  clear hN hbN
  clear BW
  clear BM
  clear HW
  clear HM
  have h6 := d_push a0 len0 cap0 _ hlen HC.out
  go_wp2_with (go_at_call 13; fail)
  refine h6.mono ?_
  rintro e v2 ⟨pn, pnx, pe, pm, pa, pc, pb, pd, qx, qk, qb, rfl, hsm6, hdr6, hqs, hb6⟩
  have HC_ : Hid (dw.Code v2 v2.heap.size a0 len0) := (HC.out.below hb6 (Nat.le_refl _)).mono (Below.size hb6)
  have HB_ : Hid (Below w.heap.size w v2) := HB.out.trans (Below.mono hb6 (Below.size HB.out))
  have HQ_ : Hid (Us v2 es ms ga cg ha ch) := us_below HQ.out hb6
  have BQ_ : Hid (v2.heap[w1.heap.size]? = some (.cells #[.string sn, .int .i64 nx, .slice ga es.length cg, .slice ha ms.length ch] 27 (0, 0))) := bstay BQ.out hb6 (Array.getElem?_eq_some_iff.1 BQ.out).1
  have HR_ : Hid (Rq v2 R H (some ⟨rg, 0, none⟩) rb) := HR.out.below hb6
  have BR_ : Hid (v2.heap[w2.heap.size]? = some (.cells #[.string sn, .int .i64 nx, .slice (some ⟨rg, 0, none⟩) R.length rc, .slice rb H.length rd] 27 (0, 0))) := bstay BR.out hb6 (Array.getElem?_eq_some_iff.1 BR.out).1
  have HD_ : Hid (Rq v2 es H da db) := HD.out.below hb6
  have BD_ : Hid (v2.heap[w4.heap.size]? = some (.cells #[.string sn, .int .i64 nx, .slice da es.length dc, .slice db H.length dd] 27 (0, 0))) := bstay BD.out hb6 (Array.getElem?_eq_some_iff.1 BD.out).1
  clear HC HB HQ BQ HR BR HD BD
  have HC := HC_
  have HB := HB_
  have HQ := HQ_
  have BQ := BQ_
  have HR := HR_
  have BR := BR_
  have HD := HD_
  have BD := BD_
  clear HC_ HB_ HQ_ BQ_ HR_ BR_ HD_ BD_
  clear h6 hb6 
  have HP : Hid (Us v2 pe pm pa pc pb pd) := hdr6
  have HSMP : Hid (Sm 520 pn pe pm) := hsm6
  clear hsm6 hdr6
  have hal : Below v2.heap.size v2 (v2.alloc (.cells #[.string pn, .int .i64 pnx, .slice pa pe.length pc, .slice pb pm.length pd] 27)) := (Below.refl _ _).alloc (Nat.le_refl _) _
  have HC_ : Hid (dw.Code (v2.alloc (.cells #[.string pn, .int .i64 pnx, .slice pa pe.length pc, .slice pb pm.length pd] 27)) (v2.alloc (.cells #[.string pn, .int .i64 pnx, .slice pa pe.length pc, .slice pb pm.length pd] 27)).heap.size a0 len0) := (HC.out.below hal (Nat.le_refl _)).mono (Below.size hal)
  have HB_ : Hid (Below w.heap.size w (v2.alloc (.cells #[.string pn, .int .i64 pnx, .slice pa pe.length pc, .slice pb pm.length pd] 27))) := HB.out.trans (Below.mono hal (Below.size HB.out))
  have HQ_ : Hid (Us (v2.alloc (.cells #[.string pn, .int .i64 pnx, .slice pa pe.length pc, .slice pb pm.length pd] 27)) es ms ga cg ha ch) := us_below HQ.out hal
  have BQ_ : Hid ((v2.alloc (.cells #[.string pn, .int .i64 pnx, .slice pa pe.length pc, .slice pb pm.length pd] 27)).heap[w1.heap.size]? = some (.cells #[.string sn, .int .i64 nx, .slice ga es.length cg, .slice ha ms.length ch] 27 (0, 0))) := bstay BQ.out hal (Array.getElem?_eq_some_iff.1 BQ.out).1
  have HR_ : Hid (Rq (v2.alloc (.cells #[.string pn, .int .i64 pnx, .slice pa pe.length pc, .slice pb pm.length pd] 27)) R H (some ⟨rg, 0, none⟩) rb) := HR.out.below hal
  have BR_ : Hid ((v2.alloc (.cells #[.string pn, .int .i64 pnx, .slice pa pe.length pc, .slice pb pm.length pd] 27)).heap[w2.heap.size]? = some (.cells #[.string sn, .int .i64 nx, .slice (some ⟨rg, 0, none⟩) R.length rc, .slice rb H.length rd] 27 (0, 0))) := bstay BR.out hal (Array.getElem?_eq_some_iff.1 BR.out).1
  have HD_ : Hid (Rq (v2.alloc (.cells #[.string pn, .int .i64 pnx, .slice pa pe.length pc, .slice pb pm.length pd] 27)) es H da db) := HD.out.below hal
  have BD_ : Hid ((v2.alloc (.cells #[.string pn, .int .i64 pnx, .slice pa pe.length pc, .slice pb pm.length pd] 27)).heap[w4.heap.size]? = some (.cells #[.string sn, .int .i64 nx, .slice da es.length dc, .slice db H.length dd] 27 (0, 0))) := bstay BD.out hal (Array.getElem?_eq_some_iff.1 BD.out).1
  have HP_ : Hid (Us (v2.alloc (.cells #[.string pn, .int .i64 pnx, .slice pa pe.length pc, .slice pb pm.length pd] 27)) pe pm pa pc pb pd) := us_below HP.out hal
  clear HC HB HQ BQ HR BR HD BD HP
  have HC := HC_
  have HB := HB_
  have HQ := HQ_
  have BQ := BQ_
  have HR := HR_
  have BR := BR_
  have HD := HD_
  have BD := BD_
  have HP := HP_
  clear HC_ HB_ HQ_ BQ_ HR_ BR_ HD_ BD_ HP_
  have BP : Hid ((v2.alloc (.cells #[.string pn, .int .i64 pnx, .slice pa pe.length pc, .slice pb pm.length pd] 27)).heap[v2.heap.size]? = some (.cells #[.string pn, .int .i64 pnx, .slice pa pe.length pc, .slice pb pm.length pd] 27 (0, 0))) := bnew v2 _ _
  clear hal
  have h7 := t_push (nx := pnx) (cg := pc) (ch := pd) (us_rq HP.out) HSMP.out (by omega) qx qk qb hqs
  have h8' := fun (W : World) (h : Us W pe pm pa pc pb pd) => s_push (nx := pnx) h HSMP.out (by omega) qx qk qb hqs
  have hss := HSMP.out.push (nx := pnx) hqs
  have hpa := @fqp.push_all pn pnx pe pm qx qk qb
  obtain ⟨SE, hSE⟩ : ∃ x, qps.ansE pn pnx pe pm qx qk qb = x := ⟨_, rfl⟩
  obtain ⟨SN, hSN⟩ : ∃ x, qps.ansN pn pnx pe pm qx qk qb = x := ⟨_, rfl⟩
  obtain ⟨sf, hsf⟩ : ∃ x, qps.fits pn pnx pe pm qx qk qb = x := ⟨_, rfl⟩
  simp only [hSE, hSN, hsf] at h7 h8' hss hpa
  have HSMS : Hid (Sm 521 pn SE pm) := hss
  have HPF : Hid (sf = true → SE = pe ++ [⟨pnx, qx, qk, qb, false⟩] ∧ SN = pnx + 1 ∧ okB pn (pnx + 1) (pe ++ [⟨pnx, qx, qk, qb, false⟩]) pm = true) := hpa
  clear hSE hSN hsf hss hpa hqs
  have x0 : (v2.alloc (.cells #[.string pn, .int .i64 pnx, .slice pa pe.length pc, .slice pb pm.length pd] 27)).cell? ⟨v2.heap.size, 0, none⟩ = some (.string pn) := bcell BP.out rfl
  have x1 : (v2.alloc (.cells #[.string pn, .int .i64 pnx, .slice pa pe.length pc, .slice pb pm.length pd] 27)).cell? ⟨v2.heap.size, 1, none⟩ = some (.int .i64 pnx) := bcell BP.out rfl
  have x2 : (v2.alloc (.cells #[.string pn, .int .i64 pnx, .slice pa pe.length pc, .slice pb pm.length pd] 27)).cell? ⟨v2.heap.size, 2, none⟩ = some (.slice pa pe.length pc) := bcell BP.out rfl
  have x3 : (v2.alloc (.cells #[.string pn, .int .i64 pnx, .slice pa pe.length pc, .slice pb pm.length pd] 27)).cell? ⟨v2.heap.size, 3, none⟩ = some (.slice pb pm.length pd) := bcell BP.out rfl
  go_wp2_with (go_at_call 14; fail)
  refine h7.mono ?_
  rintro e v3 ⟨sg, sc, sb, sd, rfl, hi7, hb7⟩
  have HC_ : Hid (dw.Code v3 v3.heap.size a0 len0) := (HC.out.below hb7 (Nat.le_refl _)).mono (Below.size hb7)
  have HB_ : Hid (Below w.heap.size w v3) := HB.out.trans (Below.mono hb7 (Below.size HB.out))
  have HQ_ : Hid (Us v3 es ms ga cg ha ch) := us_below HQ.out hb7
  have BQ_ : Hid (v3.heap[w1.heap.size]? = some (.cells #[.string sn, .int .i64 nx, .slice ga es.length cg, .slice ha ms.length ch] 27 (0, 0))) := bstay BQ.out hb7 (Array.getElem?_eq_some_iff.1 BQ.out).1
  have HR_ : Hid (Rq v3 R H (some ⟨rg, 0, none⟩) rb) := HR.out.below hb7
  have BR_ : Hid (v3.heap[w2.heap.size]? = some (.cells #[.string sn, .int .i64 nx, .slice (some ⟨rg, 0, none⟩) R.length rc, .slice rb H.length rd] 27 (0, 0))) := bstay BR.out hb7 (Array.getElem?_eq_some_iff.1 BR.out).1
  have HD_ : Hid (Rq v3 es H da db) := HD.out.below hb7
  have BD_ : Hid (v3.heap[w4.heap.size]? = some (.cells #[.string sn, .int .i64 nx, .slice da es.length dc, .slice db H.length dd] 27 (0, 0))) := bstay BD.out hb7 (Array.getElem?_eq_some_iff.1 BD.out).1
  have HP_ : Hid (Us v3 pe pm pa pc pb pd) := us_below HP.out hb7
  have BP_ : Hid (v3.heap[v2.heap.size]? = some (.cells #[.string pn, .int .i64 pnx, .slice pa pe.length pc, .slice pb pm.length pd] 27 (0, 0))) := bstay BP.out hb7 (Array.getElem?_eq_some_iff.1 BP.out).1
  clear HC HB HQ BQ HR BR HD BD HP BP
  have HC := HC_
  have HB := HB_
  have HQ := HQ_
  have BQ := BQ_
  have HR := HR_
  have BR := BR_
  have HD := HD_
  have BD := BD_
  have HP := HP_
  have BP := BP_
  clear HC_ HB_ HQ_ BQ_ HR_ BR_ HD_ BD_ HP_ BP_
  clear h7 hb7 x0 x1 x2 x3
  have HS : Hid (Rq v3 SE pm (some ⟨sg, 0, none⟩) sb) := hi7
  clear hi7
  have hal : Below v3.heap.size v3 (v3.alloc (.cells #[.string pn, .int .i64 SN, .slice (some ⟨sg, 0, none⟩) SE.length sc, .slice sb pm.length sd] 27)) := (Below.refl _ _).alloc (Nat.le_refl _) _
  have HC_ : Hid (dw.Code (v3.alloc (.cells #[.string pn, .int .i64 SN, .slice (some ⟨sg, 0, none⟩) SE.length sc, .slice sb pm.length sd] 27)) (v3.alloc (.cells #[.string pn, .int .i64 SN, .slice (some ⟨sg, 0, none⟩) SE.length sc, .slice sb pm.length sd] 27)).heap.size a0 len0) := (HC.out.below hal (Nat.le_refl _)).mono (Below.size hal)
  have HB_ : Hid (Below w.heap.size w (v3.alloc (.cells #[.string pn, .int .i64 SN, .slice (some ⟨sg, 0, none⟩) SE.length sc, .slice sb pm.length sd] 27))) := HB.out.trans (Below.mono hal (Below.size HB.out))
  have HQ_ : Hid (Us (v3.alloc (.cells #[.string pn, .int .i64 SN, .slice (some ⟨sg, 0, none⟩) SE.length sc, .slice sb pm.length sd] 27)) es ms ga cg ha ch) := us_below HQ.out hal
  have BQ_ : Hid ((v3.alloc (.cells #[.string pn, .int .i64 SN, .slice (some ⟨sg, 0, none⟩) SE.length sc, .slice sb pm.length sd] 27)).heap[w1.heap.size]? = some (.cells #[.string sn, .int .i64 nx, .slice ga es.length cg, .slice ha ms.length ch] 27 (0, 0))) := bstay BQ.out hal (Array.getElem?_eq_some_iff.1 BQ.out).1
  have HR_ : Hid (Rq (v3.alloc (.cells #[.string pn, .int .i64 SN, .slice (some ⟨sg, 0, none⟩) SE.length sc, .slice sb pm.length sd] 27)) R H (some ⟨rg, 0, none⟩) rb) := HR.out.below hal
  have BR_ : Hid ((v3.alloc (.cells #[.string pn, .int .i64 SN, .slice (some ⟨sg, 0, none⟩) SE.length sc, .slice sb pm.length sd] 27)).heap[w2.heap.size]? = some (.cells #[.string sn, .int .i64 nx, .slice (some ⟨rg, 0, none⟩) R.length rc, .slice rb H.length rd] 27 (0, 0))) := bstay BR.out hal (Array.getElem?_eq_some_iff.1 BR.out).1
  have HD_ : Hid (Rq (v3.alloc (.cells #[.string pn, .int .i64 SN, .slice (some ⟨sg, 0, none⟩) SE.length sc, .slice sb pm.length sd] 27)) es H da db) := HD.out.below hal
  have BD_ : Hid ((v3.alloc (.cells #[.string pn, .int .i64 SN, .slice (some ⟨sg, 0, none⟩) SE.length sc, .slice sb pm.length sd] 27)).heap[w4.heap.size]? = some (.cells #[.string sn, .int .i64 nx, .slice da es.length dc, .slice db H.length dd] 27 (0, 0))) := bstay BD.out hal (Array.getElem?_eq_some_iff.1 BD.out).1
  have HP_ : Hid (Us (v3.alloc (.cells #[.string pn, .int .i64 SN, .slice (some ⟨sg, 0, none⟩) SE.length sc, .slice sb pm.length sd] 27)) pe pm pa pc pb pd) := us_below HP.out hal
  have BP_ : Hid ((v3.alloc (.cells #[.string pn, .int .i64 SN, .slice (some ⟨sg, 0, none⟩) SE.length sc, .slice sb pm.length sd] 27)).heap[v2.heap.size]? = some (.cells #[.string pn, .int .i64 pnx, .slice pa pe.length pc, .slice pb pm.length pd] 27 (0, 0))) := bstay BP.out hal (Array.getElem?_eq_some_iff.1 BP.out).1
  have HS_ : Hid (Rq (v3.alloc (.cells #[.string pn, .int .i64 SN, .slice (some ⟨sg, 0, none⟩) SE.length sc, .slice sb pm.length sd] 27)) SE pm (some ⟨sg, 0, none⟩) sb) := HS.out.below hal
  clear HC HB HQ BQ HR BR HD BD HP BP HS
  have HC := HC_
  have HB := HB_
  have HQ := HQ_
  have BQ := BQ_
  have HR := HR_
  have BR := BR_
  have HD := HD_
  have BD := BD_
  have HP := HP_
  have BP := BP_
  have HS := HS_
  clear HC_ HB_ HQ_ BQ_ HR_ BR_ HD_ BD_ HP_ BP_ HS_
  have BS : Hid ((v3.alloc (.cells #[.string pn, .int .i64 SN, .slice (some ⟨sg, 0, none⟩) SE.length sc, .slice sb pm.length sd] 27)).heap[v3.heap.size]? = some (.cells #[.string pn, .int .i64 SN, .slice (some ⟨sg, 0, none⟩) SE.length sc, .slice sb pm.length sd] 27 (0, 0))) := bnew v3 _ _
  clear hal
  have x0 : (v3.alloc (.cells #[.string pn, .int .i64 SN, .slice (some ⟨sg, 0, none⟩) SE.length sc, .slice sb pm.length sd] 27)).cell? ⟨v2.heap.size, 0, none⟩ = some (.string pn) := bcell BP.out rfl
  have x1 : (v3.alloc (.cells #[.string pn, .int .i64 SN, .slice (some ⟨sg, 0, none⟩) SE.length sc, .slice sb pm.length sd] 27)).cell? ⟨v2.heap.size, 1, none⟩ = some (.int .i64 pnx) := bcell BP.out rfl
  have x2 : (v3.alloc (.cells #[.string pn, .int .i64 SN, .slice (some ⟨sg, 0, none⟩) SE.length sc, .slice sb pm.length sd] 27)).cell? ⟨v2.heap.size, 2, none⟩ = some (.slice pa pe.length pc) := bcell BP.out rfl
  have x3 : (v3.alloc (.cells #[.string pn, .int .i64 SN, .slice (some ⟨sg, 0, none⟩) SE.length sc, .slice sb pm.length sd] 27)).cell? ⟨v2.heap.size, 3, none⟩ = some (.slice pb pm.length pd) := bcell BP.out rfl
  have h8 := h8' _ HP.out
  clear h8'
  go_wp2_with (go_at_call 15; fail)
  refine h8.mono ?_
  rintro e v4 ⟨ta, tc, tb, td, rfl, hi8, hb8⟩
  have HC_ : Hid (dw.Code v4 v4.heap.size a0 len0) := (HC.out.below hb8 (Nat.le_refl _)).mono (Below.size hb8)
  have HB_ : Hid (Below w.heap.size w v4) := HB.out.trans (Below.mono hb8 (Below.size HB.out))
  have HQ_ : Hid (Us v4 es ms ga cg ha ch) := us_below HQ.out hb8
  have BQ_ : Hid (v4.heap[w1.heap.size]? = some (.cells #[.string sn, .int .i64 nx, .slice ga es.length cg, .slice ha ms.length ch] 27 (0, 0))) := bstay BQ.out hb8 (Array.getElem?_eq_some_iff.1 BQ.out).1
  have HR_ : Hid (Rq v4 R H (some ⟨rg, 0, none⟩) rb) := HR.out.below hb8
  have BR_ : Hid (v4.heap[w2.heap.size]? = some (.cells #[.string sn, .int .i64 nx, .slice (some ⟨rg, 0, none⟩) R.length rc, .slice rb H.length rd] 27 (0, 0))) := bstay BR.out hb8 (Array.getElem?_eq_some_iff.1 BR.out).1
  have HD_ : Hid (Rq v4 es H da db) := HD.out.below hb8
  have BD_ : Hid (v4.heap[w4.heap.size]? = some (.cells #[.string sn, .int .i64 nx, .slice da es.length dc, .slice db H.length dd] 27 (0, 0))) := bstay BD.out hb8 (Array.getElem?_eq_some_iff.1 BD.out).1
  have HP_ : Hid (Us v4 pe pm pa pc pb pd) := us_below HP.out hb8
  have BP_ : Hid (v4.heap[v2.heap.size]? = some (.cells #[.string pn, .int .i64 pnx, .slice pa pe.length pc, .slice pb pm.length pd] 27 (0, 0))) := bstay BP.out hb8 (Array.getElem?_eq_some_iff.1 BP.out).1
  have HS_ : Hid (Rq v4 SE pm (some ⟨sg, 0, none⟩) sb) := HS.out.below hb8
  have BS_ : Hid (v4.heap[v3.heap.size]? = some (.cells #[.string pn, .int .i64 SN, .slice (some ⟨sg, 0, none⟩) SE.length sc, .slice sb pm.length sd] 27 (0, 0))) := bstay BS.out hb8 (Array.getElem?_eq_some_iff.1 BS.out).1
  clear HC HB HQ BQ HR BR HD BD HP BP HS BS
  have HC := HC_
  have HB := HB_
  have HQ := HQ_
  have BQ := BQ_
  have HR := HR_
  have BR := BR_
  have HD := HD_
  have BD := BD_
  have HP := HP_
  have BP := BP_
  have HS := HS_
  have BS := BS_
  clear HC_ HB_ HQ_ BQ_ HR_ BR_ HD_ BD_ HP_ BP_ HS_ BS_
  clear h8 hb8 x0 x1 x2 x3
  have HT : Hid (Rq v4 SE pm ta tb) := hi8
  clear hi8
  have hal : Below v4.heap.size v4 (v4.alloc (.cells #[.string pn, .int .i64 SN, .slice ta SE.length tc, .slice tb pm.length td] 27)) := (Below.refl _ _).alloc (Nat.le_refl _) _
  have HC_ : Hid (dw.Code (v4.alloc (.cells #[.string pn, .int .i64 SN, .slice ta SE.length tc, .slice tb pm.length td] 27)) (v4.alloc (.cells #[.string pn, .int .i64 SN, .slice ta SE.length tc, .slice tb pm.length td] 27)).heap.size a0 len0) := (HC.out.below hal (Nat.le_refl _)).mono (Below.size hal)
  have HB_ : Hid (Below w.heap.size w (v4.alloc (.cells #[.string pn, .int .i64 SN, .slice ta SE.length tc, .slice tb pm.length td] 27))) := HB.out.trans (Below.mono hal (Below.size HB.out))
  have HQ_ : Hid (Us (v4.alloc (.cells #[.string pn, .int .i64 SN, .slice ta SE.length tc, .slice tb pm.length td] 27)) es ms ga cg ha ch) := us_below HQ.out hal
  have BQ_ : Hid ((v4.alloc (.cells #[.string pn, .int .i64 SN, .slice ta SE.length tc, .slice tb pm.length td] 27)).heap[w1.heap.size]? = some (.cells #[.string sn, .int .i64 nx, .slice ga es.length cg, .slice ha ms.length ch] 27 (0, 0))) := bstay BQ.out hal (Array.getElem?_eq_some_iff.1 BQ.out).1
  have HR_ : Hid (Rq (v4.alloc (.cells #[.string pn, .int .i64 SN, .slice ta SE.length tc, .slice tb pm.length td] 27)) R H (some ⟨rg, 0, none⟩) rb) := HR.out.below hal
  have BR_ : Hid ((v4.alloc (.cells #[.string pn, .int .i64 SN, .slice ta SE.length tc, .slice tb pm.length td] 27)).heap[w2.heap.size]? = some (.cells #[.string sn, .int .i64 nx, .slice (some ⟨rg, 0, none⟩) R.length rc, .slice rb H.length rd] 27 (0, 0))) := bstay BR.out hal (Array.getElem?_eq_some_iff.1 BR.out).1
  have HD_ : Hid (Rq (v4.alloc (.cells #[.string pn, .int .i64 SN, .slice ta SE.length tc, .slice tb pm.length td] 27)) es H da db) := HD.out.below hal
  have BD_ : Hid ((v4.alloc (.cells #[.string pn, .int .i64 SN, .slice ta SE.length tc, .slice tb pm.length td] 27)).heap[w4.heap.size]? = some (.cells #[.string sn, .int .i64 nx, .slice da es.length dc, .slice db H.length dd] 27 (0, 0))) := bstay BD.out hal (Array.getElem?_eq_some_iff.1 BD.out).1
  have HP_ : Hid (Us (v4.alloc (.cells #[.string pn, .int .i64 SN, .slice ta SE.length tc, .slice tb pm.length td] 27)) pe pm pa pc pb pd) := us_below HP.out hal
  have BP_ : Hid ((v4.alloc (.cells #[.string pn, .int .i64 SN, .slice ta SE.length tc, .slice tb pm.length td] 27)).heap[v2.heap.size]? = some (.cells #[.string pn, .int .i64 pnx, .slice pa pe.length pc, .slice pb pm.length pd] 27 (0, 0))) := bstay BP.out hal (Array.getElem?_eq_some_iff.1 BP.out).1
  have HS_ : Hid (Rq (v4.alloc (.cells #[.string pn, .int .i64 SN, .slice ta SE.length tc, .slice tb pm.length td] 27)) SE pm (some ⟨sg, 0, none⟩) sb) := HS.out.below hal
  have BS_ : Hid ((v4.alloc (.cells #[.string pn, .int .i64 SN, .slice ta SE.length tc, .slice tb pm.length td] 27)).heap[v3.heap.size]? = some (.cells #[.string pn, .int .i64 SN, .slice (some ⟨sg, 0, none⟩) SE.length sc, .slice sb pm.length sd] 27 (0, 0))) := bstay BS.out hal (Array.getElem?_eq_some_iff.1 BS.out).1
  have HT_ : Hid (Rq (v4.alloc (.cells #[.string pn, .int .i64 SN, .slice ta SE.length tc, .slice tb pm.length td] 27)) SE pm ta tb) := HT.out.below hal
  clear HC HB HQ BQ HR BR HD BD HP BP HS BS HT
  have HC := HC_
  have HB := HB_
  have HQ := HQ_
  have BQ := BQ_
  have HR := HR_
  have BR := BR_
  have HD := HD_
  have BD := BD_
  have HP := HP_
  have BP := BP_
  have HS := HS_
  have BS := BS_
  have HT := HT_
  clear HC_ HB_ HQ_ BQ_ HR_ BR_ HD_ BD_ HP_ BP_ HS_ BS_ HT_
  have BT : Hid ((v4.alloc (.cells #[.string pn, .int .i64 SN, .slice ta SE.length tc, .slice tb pm.length td] 27)).heap[v4.heap.size]? = some (.cells #[.string pn, .int .i64 SN, .slice ta SE.length tc, .slice tb pm.length td] 27 (0, 0))) := bnew v4 _ _
  clear hal
  have h9 := d_pop a0 len0 cap0 _ hlen HC.out
  go_wp2_with (go_at_call 16; fail)
  refine h9.mono ?_
  rintro e v5 ⟨un, unx, ue, um, ua, uc, ub, ud, o2, t2, rfl, hsm9, hdr9, hb9⟩
  have HC_ : Hid (dw.Code v5 v5.heap.size a0 len0) := (HC.out.below hb9 (Nat.le_refl _)).mono (Below.size hb9)
  have HB_ : Hid (Below w.heap.size w v5) := HB.out.trans (Below.mono hb9 (Below.size HB.out))
  have HQ_ : Hid (Us v5 es ms ga cg ha ch) := us_below HQ.out hb9
  have BQ_ : Hid (v5.heap[w1.heap.size]? = some (.cells #[.string sn, .int .i64 nx, .slice ga es.length cg, .slice ha ms.length ch] 27 (0, 0))) := bstay BQ.out hb9 (Array.getElem?_eq_some_iff.1 BQ.out).1
  have HR_ : Hid (Rq v5 R H (some ⟨rg, 0, none⟩) rb) := HR.out.below hb9
  have BR_ : Hid (v5.heap[w2.heap.size]? = some (.cells #[.string sn, .int .i64 nx, .slice (some ⟨rg, 0, none⟩) R.length rc, .slice rb H.length rd] 27 (0, 0))) := bstay BR.out hb9 (Array.getElem?_eq_some_iff.1 BR.out).1
  have HD_ : Hid (Rq v5 es H da db) := HD.out.below hb9
  have BD_ : Hid (v5.heap[w4.heap.size]? = some (.cells #[.string sn, .int .i64 nx, .slice da es.length dc, .slice db H.length dd] 27 (0, 0))) := bstay BD.out hb9 (Array.getElem?_eq_some_iff.1 BD.out).1
  have HP_ : Hid (Us v5 pe pm pa pc pb pd) := us_below HP.out hb9
  have BP_ : Hid (v5.heap[v2.heap.size]? = some (.cells #[.string pn, .int .i64 pnx, .slice pa pe.length pc, .slice pb pm.length pd] 27 (0, 0))) := bstay BP.out hb9 (Array.getElem?_eq_some_iff.1 BP.out).1
  have HS_ : Hid (Rq v5 SE pm (some ⟨sg, 0, none⟩) sb) := HS.out.below hb9
  have BS_ : Hid (v5.heap[v3.heap.size]? = some (.cells #[.string pn, .int .i64 SN, .slice (some ⟨sg, 0, none⟩) SE.length sc, .slice sb pm.length sd] 27 (0, 0))) := bstay BS.out hb9 (Array.getElem?_eq_some_iff.1 BS.out).1
  have HT_ : Hid (Rq v5 SE pm ta tb) := HT.out.below hb9
  have BT_ : Hid (v5.heap[v4.heap.size]? = some (.cells #[.string pn, .int .i64 SN, .slice ta SE.length tc, .slice tb pm.length td] 27 (0, 0))) := bstay BT.out hb9 (Array.getElem?_eq_some_iff.1 BT.out).1
  clear HC HB HQ BQ HR BR HD BD HP BP HS BS HT BT
  have HC := HC_
  have HB := HB_
  have HQ := HQ_
  have BQ := BQ_
  have HR := HR_
  have BR := BR_
  have HD := HD_
  have BD := BD_
  have HP := HP_
  have BP := BP_
  have HS := HS_
  have BS := BS_
  have HT := HT_
  have BT := BT_
  clear HC_ HB_ HQ_ BQ_ HR_ BR_ HD_ BD_ HP_ BP_ HS_ BS_ HT_ BT_
  clear h9 hb9 
  have HU : Hid (Us v5 ue um ua uc ub ud) := hdr9
  have HSMU : Hid (Sm 520 un ue um) := hsm9
  clear hsm9 hdr9 HC
  have hal : Below v5.heap.size v5 (v5.alloc (.cells #[.string un, .int .i64 unx, .slice ua ue.length uc, .slice ub um.length ud] 27)) := (Below.refl _ _).alloc (Nat.le_refl _) _
  have HB_ : Hid (Below w.heap.size w (v5.alloc (.cells #[.string un, .int .i64 unx, .slice ua ue.length uc, .slice ub um.length ud] 27))) := HB.out.trans (Below.mono hal (Below.size HB.out))
  have HQ_ : Hid (Us (v5.alloc (.cells #[.string un, .int .i64 unx, .slice ua ue.length uc, .slice ub um.length ud] 27)) es ms ga cg ha ch) := us_below HQ.out hal
  have BQ_ : Hid ((v5.alloc (.cells #[.string un, .int .i64 unx, .slice ua ue.length uc, .slice ub um.length ud] 27)).heap[w1.heap.size]? = some (.cells #[.string sn, .int .i64 nx, .slice ga es.length cg, .slice ha ms.length ch] 27 (0, 0))) := bstay BQ.out hal (Array.getElem?_eq_some_iff.1 BQ.out).1
  have HR_ : Hid (Rq (v5.alloc (.cells #[.string un, .int .i64 unx, .slice ua ue.length uc, .slice ub um.length ud] 27)) R H (some ⟨rg, 0, none⟩) rb) := HR.out.below hal
  have BR_ : Hid ((v5.alloc (.cells #[.string un, .int .i64 unx, .slice ua ue.length uc, .slice ub um.length ud] 27)).heap[w2.heap.size]? = some (.cells #[.string sn, .int .i64 nx, .slice (some ⟨rg, 0, none⟩) R.length rc, .slice rb H.length rd] 27 (0, 0))) := bstay BR.out hal (Array.getElem?_eq_some_iff.1 BR.out).1
  have HD_ : Hid (Rq (v5.alloc (.cells #[.string un, .int .i64 unx, .slice ua ue.length uc, .slice ub um.length ud] 27)) es H da db) := HD.out.below hal
  have BD_ : Hid ((v5.alloc (.cells #[.string un, .int .i64 unx, .slice ua ue.length uc, .slice ub um.length ud] 27)).heap[w4.heap.size]? = some (.cells #[.string sn, .int .i64 nx, .slice da es.length dc, .slice db H.length dd] 27 (0, 0))) := bstay BD.out hal (Array.getElem?_eq_some_iff.1 BD.out).1
  have HP_ : Hid (Us (v5.alloc (.cells #[.string un, .int .i64 unx, .slice ua ue.length uc, .slice ub um.length ud] 27)) pe pm pa pc pb pd) := us_below HP.out hal
  have BP_ : Hid ((v5.alloc (.cells #[.string un, .int .i64 unx, .slice ua ue.length uc, .slice ub um.length ud] 27)).heap[v2.heap.size]? = some (.cells #[.string pn, .int .i64 pnx, .slice pa pe.length pc, .slice pb pm.length pd] 27 (0, 0))) := bstay BP.out hal (Array.getElem?_eq_some_iff.1 BP.out).1
  have HS_ : Hid (Rq (v5.alloc (.cells #[.string un, .int .i64 unx, .slice ua ue.length uc, .slice ub um.length ud] 27)) SE pm (some ⟨sg, 0, none⟩) sb) := HS.out.below hal
  have BS_ : Hid ((v5.alloc (.cells #[.string un, .int .i64 unx, .slice ua ue.length uc, .slice ub um.length ud] 27)).heap[v3.heap.size]? = some (.cells #[.string pn, .int .i64 SN, .slice (some ⟨sg, 0, none⟩) SE.length sc, .slice sb pm.length sd] 27 (0, 0))) := bstay BS.out hal (Array.getElem?_eq_some_iff.1 BS.out).1
  have HT_ : Hid (Rq (v5.alloc (.cells #[.string un, .int .i64 unx, .slice ua ue.length uc, .slice ub um.length ud] 27)) SE pm ta tb) := HT.out.below hal
  have BT_ : Hid ((v5.alloc (.cells #[.string un, .int .i64 unx, .slice ua ue.length uc, .slice ub um.length ud] 27)).heap[v4.heap.size]? = some (.cells #[.string pn, .int .i64 SN, .slice ta SE.length tc, .slice tb pm.length td] 27 (0, 0))) := bstay BT.out hal (Array.getElem?_eq_some_iff.1 BT.out).1
  have HU_ : Hid (Us (v5.alloc (.cells #[.string un, .int .i64 unx, .slice ua ue.length uc, .slice ub um.length ud] 27)) ue um ua uc ub ud) := us_below HU.out hal
  clear HB HQ BQ HR BR HD BD HP BP HS BS HT BT HU
  have HB := HB_
  have HQ := HQ_
  have BQ := BQ_
  have HR := HR_
  have BR := BR_
  have HD := HD_
  have BD := BD_
  have HP := HP_
  have BP := BP_
  have HS := HS_
  have BS := BS_
  have HT := HT_
  have BT := BT_
  have HU := HU_
  clear HB_ HQ_ BQ_ HR_ BR_ HD_ BD_ HP_ BP_ HS_ BS_ HT_ BT_ HU_
  have BU : Hid ((v5.alloc (.cells #[.string un, .int .i64 unx, .slice ua ue.length uc, .slice ub um.length ud] 27)).heap[v5.heap.size]? = some (.cells #[.string un, .int .i64 unx, .slice ua ue.length uc, .slice ub um.length ud] 27 (0, 0))) := bnew v5 _ _
  clear hal
  have h10 := t_pop (nx := unx) (cg := uc) (ch := ud) (us_rq HU.out) HSMU.out (by omega) o2 t2
  have h11' := fun (W : World) (h : Us W ue um ua uc ub ud) => s_pop (nx := unx) h HSMU.out (by omega) o2 t2
  have hsv := HSMU.out.pop (nx := unx) (o := o2) (t := t2)
  have hga := @fqp.pop_all un unx ue um o2 t2
  have hgb : qpp.good un unx ue um o2 t2 = true → ue.length = (qpp.ansR un unx ue um o2 t2).length + 1 ∧ ue[0]? = some (qpp.ansM un unx ue um o2 t2) ∧ okB un unx (qpp.ansR un unx ue um o2 t2) (qpp.ansH un unx ue um o2 t2) = true ∧ qdp.ansC un unx (qpp.ansR un unx ue um o2 t2) (qpp.ansH un unx ue um o2 t2) o2 t2 false = 1 ∧ qbk.ansR un unx (qpp.ansR un unx ue um o2 t2) (qpp.ansH un unx ue um o2 t2) o2 t2 false = ⟨(qpp.ansM un unx ue um o2 t2).q, (qpp.ansM un unx ue um o2 t2).x, (qpp.ansM un unx ue um o2 t2).k, (qpp.ansM un unx ue um o2 t2).b, true⟩ :: qpp.ansR un unx ue um o2 t2 := fun h => by
    obtain ⟨e, l, h1, h2, h3, h4, h5, h6⟩ := hga h
    rw [h3, h2]
    exact ⟨by rw [h1]; rfl, by rw [h1]; rfl, h4, h5, h6⟩
  obtain ⟨VR, hVR⟩ : ∃ x, qpp.ansR un unx ue um o2 t2 = x := ⟨_, rfl⟩
  obtain ⟨VH, hVH⟩ : ∃ x, qpp.ansH un unx ue um o2 t2 = x := ⟨_, rfl⟩
  obtain ⟨M, hM⟩ : ∃ x, qpp.ansM un unx ue um o2 t2 = x := ⟨_, rfl⟩
  obtain ⟨gd, hgd⟩ : ∃ x, qpp.good un unx ue um o2 t2 = x := ⟨_, rfl⟩
  simp only [hVR, hVH, hM, hgd] at h10 h11' hsv hgb
  have HSMV : Hid (Sm 521 un VR VH) := hsv
  have HGD : Hid (gd = true → ue.length = VR.length + 1 ∧ ue[0]? = some M ∧ okB un unx VR VH = true ∧ qdp.ansC un unx VR VH o2 t2 false = 1 ∧ qbk.ansR un unx VR VH o2 t2 false = ⟨M.q, M.x, M.k, M.b, true⟩ :: VR) := hgb
  clear hVR hVH hM hgd hsv hga hgb
  have x0 : (v5.alloc (.cells #[.string un, .int .i64 unx, .slice ua ue.length uc, .slice ub um.length ud] 27)).cell? ⟨v5.heap.size, 0, none⟩ = some (.string un) := bcell BU.out rfl
  have x1 : (v5.alloc (.cells #[.string un, .int .i64 unx, .slice ua ue.length uc, .slice ub um.length ud] 27)).cell? ⟨v5.heap.size, 1, none⟩ = some (.int .i64 unx) := bcell BU.out rfl
  have x2 : (v5.alloc (.cells #[.string un, .int .i64 unx, .slice ua ue.length uc, .slice ub um.length ud] 27)).cell? ⟨v5.heap.size, 2, none⟩ = some (.slice ua ue.length uc) := bcell BU.out rfl
  have x3 : (v5.alloc (.cells #[.string un, .int .i64 unx, .slice ua ue.length uc, .slice ub um.length ud] 27)).cell? ⟨v5.heap.size, 3, none⟩ = some (.slice ub um.length ud) := bcell BU.out rfl
  go_wp2_with (go_at_call 17; fail)
  refine h10.mono ?_
  rintro e v6 ⟨va, vc, vb, vd, rfl, hi10, hb10⟩
  have HB_ : Hid (Below w.heap.size w v6) := HB.out.trans (Below.mono hb10 (Below.size HB.out))
  have HQ_ : Hid (Us v6 es ms ga cg ha ch) := us_below HQ.out hb10
  have BQ_ : Hid (v6.heap[w1.heap.size]? = some (.cells #[.string sn, .int .i64 nx, .slice ga es.length cg, .slice ha ms.length ch] 27 (0, 0))) := bstay BQ.out hb10 (Array.getElem?_eq_some_iff.1 BQ.out).1
  have HR_ : Hid (Rq v6 R H (some ⟨rg, 0, none⟩) rb) := HR.out.below hb10
  have BR_ : Hid (v6.heap[w2.heap.size]? = some (.cells #[.string sn, .int .i64 nx, .slice (some ⟨rg, 0, none⟩) R.length rc, .slice rb H.length rd] 27 (0, 0))) := bstay BR.out hb10 (Array.getElem?_eq_some_iff.1 BR.out).1
  have HD_ : Hid (Rq v6 es H da db) := HD.out.below hb10
  have BD_ : Hid (v6.heap[w4.heap.size]? = some (.cells #[.string sn, .int .i64 nx, .slice da es.length dc, .slice db H.length dd] 27 (0, 0))) := bstay BD.out hb10 (Array.getElem?_eq_some_iff.1 BD.out).1
  have HP_ : Hid (Us v6 pe pm pa pc pb pd) := us_below HP.out hb10
  have BP_ : Hid (v6.heap[v2.heap.size]? = some (.cells #[.string pn, .int .i64 pnx, .slice pa pe.length pc, .slice pb pm.length pd] 27 (0, 0))) := bstay BP.out hb10 (Array.getElem?_eq_some_iff.1 BP.out).1
  have HS_ : Hid (Rq v6 SE pm (some ⟨sg, 0, none⟩) sb) := HS.out.below hb10
  have BS_ : Hid (v6.heap[v3.heap.size]? = some (.cells #[.string pn, .int .i64 SN, .slice (some ⟨sg, 0, none⟩) SE.length sc, .slice sb pm.length sd] 27 (0, 0))) := bstay BS.out hb10 (Array.getElem?_eq_some_iff.1 BS.out).1
  have HT_ : Hid (Rq v6 SE pm ta tb) := HT.out.below hb10
  have BT_ : Hid (v6.heap[v4.heap.size]? = some (.cells #[.string pn, .int .i64 SN, .slice ta SE.length tc, .slice tb pm.length td] 27 (0, 0))) := bstay BT.out hb10 (Array.getElem?_eq_some_iff.1 BT.out).1
  have HU_ : Hid (Us v6 ue um ua uc ub ud) := us_below HU.out hb10
  have BU_ : Hid (v6.heap[v5.heap.size]? = some (.cells #[.string un, .int .i64 unx, .slice ua ue.length uc, .slice ub um.length ud] 27 (0, 0))) := bstay BU.out hb10 (Array.getElem?_eq_some_iff.1 BU.out).1
  clear HB HQ BQ HR BR HD BD HP BP HS BS HT BT HU BU
  have HB := HB_
  have HQ := HQ_
  have BQ := BQ_
  have HR := HR_
  have BR := BR_
  have HD := HD_
  have BD := BD_
  have HP := HP_
  have BP := BP_
  have HS := HS_
  have BS := BS_
  have HT := HT_
  have BT := BT_
  have HU := HU_
  have BU := BU_
  clear HB_ HQ_ BQ_ HR_ BR_ HD_ BD_ HP_ BP_ HS_ BS_ HT_ BT_ HU_ BU_
  clear h10 hb10 x0 x1 x2 x3
  have HV : Hid (Rq v6 VR VH va vb) := hi10
  clear hi10
  have hal : Below v6.heap.size v6 (v6.alloc (.cells #[.string un, .int .i64 unx, .slice va VR.length vc, .slice vb VH.length vd] 27)) := (Below.refl _ _).alloc (Nat.le_refl _) _
  have HB_ : Hid (Below w.heap.size w (v6.alloc (.cells #[.string un, .int .i64 unx, .slice va VR.length vc, .slice vb VH.length vd] 27))) := HB.out.trans (Below.mono hal (Below.size HB.out))
  have HQ_ : Hid (Us (v6.alloc (.cells #[.string un, .int .i64 unx, .slice va VR.length vc, .slice vb VH.length vd] 27)) es ms ga cg ha ch) := us_below HQ.out hal
  have BQ_ : Hid ((v6.alloc (.cells #[.string un, .int .i64 unx, .slice va VR.length vc, .slice vb VH.length vd] 27)).heap[w1.heap.size]? = some (.cells #[.string sn, .int .i64 nx, .slice ga es.length cg, .slice ha ms.length ch] 27 (0, 0))) := bstay BQ.out hal (Array.getElem?_eq_some_iff.1 BQ.out).1
  have HR_ : Hid (Rq (v6.alloc (.cells #[.string un, .int .i64 unx, .slice va VR.length vc, .slice vb VH.length vd] 27)) R H (some ⟨rg, 0, none⟩) rb) := HR.out.below hal
  have BR_ : Hid ((v6.alloc (.cells #[.string un, .int .i64 unx, .slice va VR.length vc, .slice vb VH.length vd] 27)).heap[w2.heap.size]? = some (.cells #[.string sn, .int .i64 nx, .slice (some ⟨rg, 0, none⟩) R.length rc, .slice rb H.length rd] 27 (0, 0))) := bstay BR.out hal (Array.getElem?_eq_some_iff.1 BR.out).1
  have HD_ : Hid (Rq (v6.alloc (.cells #[.string un, .int .i64 unx, .slice va VR.length vc, .slice vb VH.length vd] 27)) es H da db) := HD.out.below hal
  have BD_ : Hid ((v6.alloc (.cells #[.string un, .int .i64 unx, .slice va VR.length vc, .slice vb VH.length vd] 27)).heap[w4.heap.size]? = some (.cells #[.string sn, .int .i64 nx, .slice da es.length dc, .slice db H.length dd] 27 (0, 0))) := bstay BD.out hal (Array.getElem?_eq_some_iff.1 BD.out).1
  have HP_ : Hid (Us (v6.alloc (.cells #[.string un, .int .i64 unx, .slice va VR.length vc, .slice vb VH.length vd] 27)) pe pm pa pc pb pd) := us_below HP.out hal
  have BP_ : Hid ((v6.alloc (.cells #[.string un, .int .i64 unx, .slice va VR.length vc, .slice vb VH.length vd] 27)).heap[v2.heap.size]? = some (.cells #[.string pn, .int .i64 pnx, .slice pa pe.length pc, .slice pb pm.length pd] 27 (0, 0))) := bstay BP.out hal (Array.getElem?_eq_some_iff.1 BP.out).1
  have HS_ : Hid (Rq (v6.alloc (.cells #[.string un, .int .i64 unx, .slice va VR.length vc, .slice vb VH.length vd] 27)) SE pm (some ⟨sg, 0, none⟩) sb) := HS.out.below hal
  have BS_ : Hid ((v6.alloc (.cells #[.string un, .int .i64 unx, .slice va VR.length vc, .slice vb VH.length vd] 27)).heap[v3.heap.size]? = some (.cells #[.string pn, .int .i64 SN, .slice (some ⟨sg, 0, none⟩) SE.length sc, .slice sb pm.length sd] 27 (0, 0))) := bstay BS.out hal (Array.getElem?_eq_some_iff.1 BS.out).1
  have HT_ : Hid (Rq (v6.alloc (.cells #[.string un, .int .i64 unx, .slice va VR.length vc, .slice vb VH.length vd] 27)) SE pm ta tb) := HT.out.below hal
  have BT_ : Hid ((v6.alloc (.cells #[.string un, .int .i64 unx, .slice va VR.length vc, .slice vb VH.length vd] 27)).heap[v4.heap.size]? = some (.cells #[.string pn, .int .i64 SN, .slice ta SE.length tc, .slice tb pm.length td] 27 (0, 0))) := bstay BT.out hal (Array.getElem?_eq_some_iff.1 BT.out).1
  have HU_ : Hid (Us (v6.alloc (.cells #[.string un, .int .i64 unx, .slice va VR.length vc, .slice vb VH.length vd] 27)) ue um ua uc ub ud) := us_below HU.out hal
  have BU_ : Hid ((v6.alloc (.cells #[.string un, .int .i64 unx, .slice va VR.length vc, .slice vb VH.length vd] 27)).heap[v5.heap.size]? = some (.cells #[.string un, .int .i64 unx, .slice ua ue.length uc, .slice ub um.length ud] 27 (0, 0))) := bstay BU.out hal (Array.getElem?_eq_some_iff.1 BU.out).1
  have HV_ : Hid (Rq (v6.alloc (.cells #[.string un, .int .i64 unx, .slice va VR.length vc, .slice vb VH.length vd] 27)) VR VH va vb) := HV.out.below hal
  clear HB HQ BQ HR BR HD BD HP BP HS BS HT BT HU BU HV
  have HB := HB_
  have HQ := HQ_
  have BQ := BQ_
  have HR := HR_
  have BR := BR_
  have HD := HD_
  have BD := BD_
  have HP := HP_
  have BP := BP_
  have HS := HS_
  have BS := BS_
  have HT := HT_
  have BT := BT_
  have HU := HU_
  have BU := BU_
  have HV := HV_
  clear HB_ HQ_ BQ_ HR_ BR_ HD_ BD_ HP_ BP_ HS_ BS_ HT_ BT_ HU_ BU_ HV_
  have BV : Hid ((v6.alloc (.cells #[.string un, .int .i64 unx, .slice va VR.length vc, .slice vb VH.length vd] 27)).heap[v6.heap.size]? = some (.cells #[.string un, .int .i64 unx, .slice va VR.length vc, .slice vb VH.length vd] 27 (0, 0))) := bnew v6 _ _
  clear hal
  have hal : Below (v6.alloc (.cells #[.string un, .int .i64 unx, .slice va VR.length vc, .slice vb VH.length vd] 27)).heap.size (v6.alloc (.cells #[.string un, .int .i64 unx, .slice va VR.length vc, .slice vb VH.length vd] 27)) ((v6.alloc (.cells #[.string un, .int .i64 unx, .slice va VR.length vc, .slice vb VH.length vd] 27)).alloc (.cells #[.int .i64 M.q, .string M.x, .string M.k, .string M.b, .bool M.a] 41)) := (Below.refl _ _).alloc (Nat.le_refl _) _
  have HB_ : Hid (Below w.heap.size w ((v6.alloc (.cells #[.string un, .int .i64 unx, .slice va VR.length vc, .slice vb VH.length vd] 27)).alloc (.cells #[.int .i64 M.q, .string M.x, .string M.k, .string M.b, .bool M.a] 41))) := HB.out.trans (Below.mono hal (Below.size HB.out))
  have HQ_ : Hid (Us ((v6.alloc (.cells #[.string un, .int .i64 unx, .slice va VR.length vc, .slice vb VH.length vd] 27)).alloc (.cells #[.int .i64 M.q, .string M.x, .string M.k, .string M.b, .bool M.a] 41)) es ms ga cg ha ch) := us_below HQ.out hal
  have BQ_ : Hid (((v6.alloc (.cells #[.string un, .int .i64 unx, .slice va VR.length vc, .slice vb VH.length vd] 27)).alloc (.cells #[.int .i64 M.q, .string M.x, .string M.k, .string M.b, .bool M.a] 41)).heap[w1.heap.size]? = some (.cells #[.string sn, .int .i64 nx, .slice ga es.length cg, .slice ha ms.length ch] 27 (0, 0))) := bstay BQ.out hal (Array.getElem?_eq_some_iff.1 BQ.out).1
  have HR_ : Hid (Rq ((v6.alloc (.cells #[.string un, .int .i64 unx, .slice va VR.length vc, .slice vb VH.length vd] 27)).alloc (.cells #[.int .i64 M.q, .string M.x, .string M.k, .string M.b, .bool M.a] 41)) R H (some ⟨rg, 0, none⟩) rb) := HR.out.below hal
  have BR_ : Hid (((v6.alloc (.cells #[.string un, .int .i64 unx, .slice va VR.length vc, .slice vb VH.length vd] 27)).alloc (.cells #[.int .i64 M.q, .string M.x, .string M.k, .string M.b, .bool M.a] 41)).heap[w2.heap.size]? = some (.cells #[.string sn, .int .i64 nx, .slice (some ⟨rg, 0, none⟩) R.length rc, .slice rb H.length rd] 27 (0, 0))) := bstay BR.out hal (Array.getElem?_eq_some_iff.1 BR.out).1
  have HD_ : Hid (Rq ((v6.alloc (.cells #[.string un, .int .i64 unx, .slice va VR.length vc, .slice vb VH.length vd] 27)).alloc (.cells #[.int .i64 M.q, .string M.x, .string M.k, .string M.b, .bool M.a] 41)) es H da db) := HD.out.below hal
  have BD_ : Hid (((v6.alloc (.cells #[.string un, .int .i64 unx, .slice va VR.length vc, .slice vb VH.length vd] 27)).alloc (.cells #[.int .i64 M.q, .string M.x, .string M.k, .string M.b, .bool M.a] 41)).heap[w4.heap.size]? = some (.cells #[.string sn, .int .i64 nx, .slice da es.length dc, .slice db H.length dd] 27 (0, 0))) := bstay BD.out hal (Array.getElem?_eq_some_iff.1 BD.out).1
  have HP_ : Hid (Us ((v6.alloc (.cells #[.string un, .int .i64 unx, .slice va VR.length vc, .slice vb VH.length vd] 27)).alloc (.cells #[.int .i64 M.q, .string M.x, .string M.k, .string M.b, .bool M.a] 41)) pe pm pa pc pb pd) := us_below HP.out hal
  have BP_ : Hid (((v6.alloc (.cells #[.string un, .int .i64 unx, .slice va VR.length vc, .slice vb VH.length vd] 27)).alloc (.cells #[.int .i64 M.q, .string M.x, .string M.k, .string M.b, .bool M.a] 41)).heap[v2.heap.size]? = some (.cells #[.string pn, .int .i64 pnx, .slice pa pe.length pc, .slice pb pm.length pd] 27 (0, 0))) := bstay BP.out hal (Array.getElem?_eq_some_iff.1 BP.out).1
  have HS_ : Hid (Rq ((v6.alloc (.cells #[.string un, .int .i64 unx, .slice va VR.length vc, .slice vb VH.length vd] 27)).alloc (.cells #[.int .i64 M.q, .string M.x, .string M.k, .string M.b, .bool M.a] 41)) SE pm (some ⟨sg, 0, none⟩) sb) := HS.out.below hal
  have BS_ : Hid (((v6.alloc (.cells #[.string un, .int .i64 unx, .slice va VR.length vc, .slice vb VH.length vd] 27)).alloc (.cells #[.int .i64 M.q, .string M.x, .string M.k, .string M.b, .bool M.a] 41)).heap[v3.heap.size]? = some (.cells #[.string pn, .int .i64 SN, .slice (some ⟨sg, 0, none⟩) SE.length sc, .slice sb pm.length sd] 27 (0, 0))) := bstay BS.out hal (Array.getElem?_eq_some_iff.1 BS.out).1
  have HT_ : Hid (Rq ((v6.alloc (.cells #[.string un, .int .i64 unx, .slice va VR.length vc, .slice vb VH.length vd] 27)).alloc (.cells #[.int .i64 M.q, .string M.x, .string M.k, .string M.b, .bool M.a] 41)) SE pm ta tb) := HT.out.below hal
  have BT_ : Hid (((v6.alloc (.cells #[.string un, .int .i64 unx, .slice va VR.length vc, .slice vb VH.length vd] 27)).alloc (.cells #[.int .i64 M.q, .string M.x, .string M.k, .string M.b, .bool M.a] 41)).heap[v4.heap.size]? = some (.cells #[.string pn, .int .i64 SN, .slice ta SE.length tc, .slice tb pm.length td] 27 (0, 0))) := bstay BT.out hal (Array.getElem?_eq_some_iff.1 BT.out).1
  have HU_ : Hid (Us ((v6.alloc (.cells #[.string un, .int .i64 unx, .slice va VR.length vc, .slice vb VH.length vd] 27)).alloc (.cells #[.int .i64 M.q, .string M.x, .string M.k, .string M.b, .bool M.a] 41)) ue um ua uc ub ud) := us_below HU.out hal
  have BU_ : Hid (((v6.alloc (.cells #[.string un, .int .i64 unx, .slice va VR.length vc, .slice vb VH.length vd] 27)).alloc (.cells #[.int .i64 M.q, .string M.x, .string M.k, .string M.b, .bool M.a] 41)).heap[v5.heap.size]? = some (.cells #[.string un, .int .i64 unx, .slice ua ue.length uc, .slice ub um.length ud] 27 (0, 0))) := bstay BU.out hal (Array.getElem?_eq_some_iff.1 BU.out).1
  have HV_ : Hid (Rq ((v6.alloc (.cells #[.string un, .int .i64 unx, .slice va VR.length vc, .slice vb VH.length vd] 27)).alloc (.cells #[.int .i64 M.q, .string M.x, .string M.k, .string M.b, .bool M.a] 41)) VR VH va vb) := HV.out.below hal
  have BV_ : Hid (((v6.alloc (.cells #[.string un, .int .i64 unx, .slice va VR.length vc, .slice vb VH.length vd] 27)).alloc (.cells #[.int .i64 M.q, .string M.x, .string M.k, .string M.b, .bool M.a] 41)).heap[v6.heap.size]? = some (.cells #[.string un, .int .i64 unx, .slice va VR.length vc, .slice vb VH.length vd] 27 (0, 0))) := bstay BV.out hal (Array.getElem?_eq_some_iff.1 BV.out).1
  clear HB HQ BQ HR BR HD BD HP BP HS BS HT BT HU BU HV BV
  have HB := HB_
  have HQ := HQ_
  have BQ := BQ_
  have HR := HR_
  have BR := BR_
  have HD := HD_
  have BD := BD_
  have HP := HP_
  have BP := BP_
  have HS := HS_
  have BS := BS_
  have HT := HT_
  have BT := BT_
  have HU := HU_
  have BU := BU_
  have HV := HV_
  have BV := BV_
  clear HB_ HQ_ BQ_ HR_ BR_ HD_ BD_ HP_ BP_ HS_ BS_ HT_ BT_ HU_ BU_ HV_ BV_
  have BMV : Hid (((v6.alloc (.cells #[.string un, .int .i64 unx, .slice va VR.length vc, .slice vb VH.length vd] 27)).alloc (.cells #[.int .i64 M.q, .string M.x, .string M.k, .string M.b, .bool M.a] 41)).heap[v6.heap.size + 1]? = some (.cells #[.int .i64 M.q, .string M.x, .string M.k, .string M.b, .bool M.a] 41 (0, 0))) := by have h9 := bnew (v6.alloc (.cells #[.string un, .int .i64 unx, .slice va VR.length vc, .slice vb VH.length vd] 27)) #[.int .i64 M.q, .string M.x, .string M.k, .string M.b, .bool M.a] 41; rw [World.size_alloc] at h9; exact h9
  clear hal
  have x0 : ((v6.alloc (.cells #[.string un, .int .i64 unx, .slice va VR.length vc, .slice vb VH.length vd] 27)).alloc (.cells #[.int .i64 M.q, .string M.x, .string M.k, .string M.b, .bool M.a] 41)).cell? ⟨v5.heap.size, 0, none⟩ = some (.string un) := bcell BU.out rfl
  have x1 : ((v6.alloc (.cells #[.string un, .int .i64 unx, .slice va VR.length vc, .slice vb VH.length vd] 27)).alloc (.cells #[.int .i64 M.q, .string M.x, .string M.k, .string M.b, .bool M.a] 41)).cell? ⟨v5.heap.size, 1, none⟩ = some (.int .i64 unx) := bcell BU.out rfl
  have x2 : ((v6.alloc (.cells #[.string un, .int .i64 unx, .slice va VR.length vc, .slice vb VH.length vd] 27)).alloc (.cells #[.int .i64 M.q, .string M.x, .string M.k, .string M.b, .bool M.a] 41)).cell? ⟨v5.heap.size, 2, none⟩ = some (.slice ua ue.length uc) := bcell BU.out rfl
  have x3 : ((v6.alloc (.cells #[.string un, .int .i64 unx, .slice va VR.length vc, .slice vb VH.length vd] 27)).alloc (.cells #[.int .i64 M.q, .string M.x, .string M.k, .string M.b, .bool M.a] 41)).cell? ⟨v5.heap.size, 3, none⟩ = some (.slice ub um.length ud) := bcell BU.out rfl
  have h11 := h11' _ HU.out
  clear h11'
  go_wp2_with (go_at_call 18; fail)
  refine h11.mono ?_
  rintro e v7 ⟨xa, xc, xb, xd, rfl, hi11, hb11⟩
  have HB_ : Hid (Below w.heap.size w v7) := HB.out.trans (Below.mono hb11 (Below.size HB.out))
  have HQ_ : Hid (Us v7 es ms ga cg ha ch) := us_below HQ.out hb11
  have BQ_ : Hid (v7.heap[w1.heap.size]? = some (.cells #[.string sn, .int .i64 nx, .slice ga es.length cg, .slice ha ms.length ch] 27 (0, 0))) := bstay BQ.out hb11 (Array.getElem?_eq_some_iff.1 BQ.out).1
  have HR_ : Hid (Rq v7 R H (some ⟨rg, 0, none⟩) rb) := HR.out.below hb11
  have BR_ : Hid (v7.heap[w2.heap.size]? = some (.cells #[.string sn, .int .i64 nx, .slice (some ⟨rg, 0, none⟩) R.length rc, .slice rb H.length rd] 27 (0, 0))) := bstay BR.out hb11 (Array.getElem?_eq_some_iff.1 BR.out).1
  have HD_ : Hid (Rq v7 es H da db) := HD.out.below hb11
  have BD_ : Hid (v7.heap[w4.heap.size]? = some (.cells #[.string sn, .int .i64 nx, .slice da es.length dc, .slice db H.length dd] 27 (0, 0))) := bstay BD.out hb11 (Array.getElem?_eq_some_iff.1 BD.out).1
  have HP_ : Hid (Us v7 pe pm pa pc pb pd) := us_below HP.out hb11
  have BP_ : Hid (v7.heap[v2.heap.size]? = some (.cells #[.string pn, .int .i64 pnx, .slice pa pe.length pc, .slice pb pm.length pd] 27 (0, 0))) := bstay BP.out hb11 (Array.getElem?_eq_some_iff.1 BP.out).1
  have HS_ : Hid (Rq v7 SE pm (some ⟨sg, 0, none⟩) sb) := HS.out.below hb11
  have BS_ : Hid (v7.heap[v3.heap.size]? = some (.cells #[.string pn, .int .i64 SN, .slice (some ⟨sg, 0, none⟩) SE.length sc, .slice sb pm.length sd] 27 (0, 0))) := bstay BS.out hb11 (Array.getElem?_eq_some_iff.1 BS.out).1
  have HT_ : Hid (Rq v7 SE pm ta tb) := HT.out.below hb11
  have BT_ : Hid (v7.heap[v4.heap.size]? = some (.cells #[.string pn, .int .i64 SN, .slice ta SE.length tc, .slice tb pm.length td] 27 (0, 0))) := bstay BT.out hb11 (Array.getElem?_eq_some_iff.1 BT.out).1
  have HU_ : Hid (Us v7 ue um ua uc ub ud) := us_below HU.out hb11
  have BU_ : Hid (v7.heap[v5.heap.size]? = some (.cells #[.string un, .int .i64 unx, .slice ua ue.length uc, .slice ub um.length ud] 27 (0, 0))) := bstay BU.out hb11 (Array.getElem?_eq_some_iff.1 BU.out).1
  have HV_ : Hid (Rq v7 VR VH va vb) := HV.out.below hb11
  have BV_ : Hid (v7.heap[v6.heap.size]? = some (.cells #[.string un, .int .i64 unx, .slice va VR.length vc, .slice vb VH.length vd] 27 (0, 0))) := bstay BV.out hb11 (Array.getElem?_eq_some_iff.1 BV.out).1
  have BMV_ : Hid (v7.heap[v6.heap.size + 1]? = some (.cells #[.int .i64 M.q, .string M.x, .string M.k, .string M.b, .bool M.a] 41 (0, 0))) := bstay BMV.out hb11 (Array.getElem?_eq_some_iff.1 BMV.out).1
  clear HB HQ BQ HR BR HD BD HP BP HS BS HT BT HU BU HV BV BMV
  have HB := HB_
  have HQ := HQ_
  have BQ := BQ_
  have HR := HR_
  have BR := BR_
  have HD := HD_
  have BD := BD_
  have HP := HP_
  have BP := BP_
  have HS := HS_
  have BS := BS_
  have HT := HT_
  have BT := BT_
  have HU := HU_
  have BU := BU_
  have HV := HV_
  have BV := BV_
  have BMV := BMV_
  clear HB_ HQ_ BQ_ HR_ BR_ HD_ BD_ HP_ BP_ HS_ BS_ HT_ BT_ HU_ BU_ HV_ BV_ BMV_
  clear h11 hb11 x0 x1 x2 x3
  have HX : Hid (Rq v7 VR VH xa xb) := hi11
  clear hi11
  have hal : Below v7.heap.size v7 (v7.alloc (.cells #[.string un, .int .i64 unx, .slice xa VR.length xc, .slice xb VH.length xd] 27)) := (Below.refl _ _).alloc (Nat.le_refl _) _
  have HB_ : Hid (Below w.heap.size w (v7.alloc (.cells #[.string un, .int .i64 unx, .slice xa VR.length xc, .slice xb VH.length xd] 27))) := HB.out.trans (Below.mono hal (Below.size HB.out))
  have HQ_ : Hid (Us (v7.alloc (.cells #[.string un, .int .i64 unx, .slice xa VR.length xc, .slice xb VH.length xd] 27)) es ms ga cg ha ch) := us_below HQ.out hal
  have BQ_ : Hid ((v7.alloc (.cells #[.string un, .int .i64 unx, .slice xa VR.length xc, .slice xb VH.length xd] 27)).heap[w1.heap.size]? = some (.cells #[.string sn, .int .i64 nx, .slice ga es.length cg, .slice ha ms.length ch] 27 (0, 0))) := bstay BQ.out hal (Array.getElem?_eq_some_iff.1 BQ.out).1
  have HR_ : Hid (Rq (v7.alloc (.cells #[.string un, .int .i64 unx, .slice xa VR.length xc, .slice xb VH.length xd] 27)) R H (some ⟨rg, 0, none⟩) rb) := HR.out.below hal
  have BR_ : Hid ((v7.alloc (.cells #[.string un, .int .i64 unx, .slice xa VR.length xc, .slice xb VH.length xd] 27)).heap[w2.heap.size]? = some (.cells #[.string sn, .int .i64 nx, .slice (some ⟨rg, 0, none⟩) R.length rc, .slice rb H.length rd] 27 (0, 0))) := bstay BR.out hal (Array.getElem?_eq_some_iff.1 BR.out).1
  have HD_ : Hid (Rq (v7.alloc (.cells #[.string un, .int .i64 unx, .slice xa VR.length xc, .slice xb VH.length xd] 27)) es H da db) := HD.out.below hal
  have BD_ : Hid ((v7.alloc (.cells #[.string un, .int .i64 unx, .slice xa VR.length xc, .slice xb VH.length xd] 27)).heap[w4.heap.size]? = some (.cells #[.string sn, .int .i64 nx, .slice da es.length dc, .slice db H.length dd] 27 (0, 0))) := bstay BD.out hal (Array.getElem?_eq_some_iff.1 BD.out).1
  have HP_ : Hid (Us (v7.alloc (.cells #[.string un, .int .i64 unx, .slice xa VR.length xc, .slice xb VH.length xd] 27)) pe pm pa pc pb pd) := us_below HP.out hal
  have BP_ : Hid ((v7.alloc (.cells #[.string un, .int .i64 unx, .slice xa VR.length xc, .slice xb VH.length xd] 27)).heap[v2.heap.size]? = some (.cells #[.string pn, .int .i64 pnx, .slice pa pe.length pc, .slice pb pm.length pd] 27 (0, 0))) := bstay BP.out hal (Array.getElem?_eq_some_iff.1 BP.out).1
  have HS_ : Hid (Rq (v7.alloc (.cells #[.string un, .int .i64 unx, .slice xa VR.length xc, .slice xb VH.length xd] 27)) SE pm (some ⟨sg, 0, none⟩) sb) := HS.out.below hal
  have BS_ : Hid ((v7.alloc (.cells #[.string un, .int .i64 unx, .slice xa VR.length xc, .slice xb VH.length xd] 27)).heap[v3.heap.size]? = some (.cells #[.string pn, .int .i64 SN, .slice (some ⟨sg, 0, none⟩) SE.length sc, .slice sb pm.length sd] 27 (0, 0))) := bstay BS.out hal (Array.getElem?_eq_some_iff.1 BS.out).1
  have HT_ : Hid (Rq (v7.alloc (.cells #[.string un, .int .i64 unx, .slice xa VR.length xc, .slice xb VH.length xd] 27)) SE pm ta tb) := HT.out.below hal
  have BT_ : Hid ((v7.alloc (.cells #[.string un, .int .i64 unx, .slice xa VR.length xc, .slice xb VH.length xd] 27)).heap[v4.heap.size]? = some (.cells #[.string pn, .int .i64 SN, .slice ta SE.length tc, .slice tb pm.length td] 27 (0, 0))) := bstay BT.out hal (Array.getElem?_eq_some_iff.1 BT.out).1
  have HU_ : Hid (Us (v7.alloc (.cells #[.string un, .int .i64 unx, .slice xa VR.length xc, .slice xb VH.length xd] 27)) ue um ua uc ub ud) := us_below HU.out hal
  have BU_ : Hid ((v7.alloc (.cells #[.string un, .int .i64 unx, .slice xa VR.length xc, .slice xb VH.length xd] 27)).heap[v5.heap.size]? = some (.cells #[.string un, .int .i64 unx, .slice ua ue.length uc, .slice ub um.length ud] 27 (0, 0))) := bstay BU.out hal (Array.getElem?_eq_some_iff.1 BU.out).1
  have HV_ : Hid (Rq (v7.alloc (.cells #[.string un, .int .i64 unx, .slice xa VR.length xc, .slice xb VH.length xd] 27)) VR VH va vb) := HV.out.below hal
  have BV_ : Hid ((v7.alloc (.cells #[.string un, .int .i64 unx, .slice xa VR.length xc, .slice xb VH.length xd] 27)).heap[v6.heap.size]? = some (.cells #[.string un, .int .i64 unx, .slice va VR.length vc, .slice vb VH.length vd] 27 (0, 0))) := bstay BV.out hal (Array.getElem?_eq_some_iff.1 BV.out).1
  have BMV_ : Hid ((v7.alloc (.cells #[.string un, .int .i64 unx, .slice xa VR.length xc, .slice xb VH.length xd] 27)).heap[v6.heap.size + 1]? = some (.cells #[.int .i64 M.q, .string M.x, .string M.k, .string M.b, .bool M.a] 41 (0, 0))) := bstay BMV.out hal (Array.getElem?_eq_some_iff.1 BMV.out).1
  have HX_ : Hid (Rq (v7.alloc (.cells #[.string un, .int .i64 unx, .slice xa VR.length xc, .slice xb VH.length xd] 27)) VR VH xa xb) := HX.out.below hal
  clear HB HQ BQ HR BR HD BD HP BP HS BS HT BT HU BU HV BV BMV HX
  have HB := HB_
  have HQ := HQ_
  have BQ := BQ_
  have HR := HR_
  have BR := BR_
  have HD := HD_
  have BD := BD_
  have HP := HP_
  have BP := BP_
  have HS := HS_
  have BS := BS_
  have HT := HT_
  have BT := BT_
  have HU := HU_
  have BU := BU_
  have HV := HV_
  have BV := BV_
  have BMV := BMV_
  have HX := HX_
  clear HB_ HQ_ BQ_ HR_ BR_ HD_ BD_ HP_ BP_ HS_ BS_ HT_ BT_ HU_ BU_ HV_ BV_ BMV_ HX_
  have BX : Hid ((v7.alloc (.cells #[.string un, .int .i64 unx, .slice xa VR.length xc, .slice xb VH.length xd] 27)).heap[v7.heap.size]? = some (.cells #[.string un, .int .i64 unx, .slice xa VR.length xc, .slice xb VH.length xd] 27 (0, 0))) := bnew v7 _ _
  clear hal
  have hal : Below (v7.alloc (.cells #[.string un, .int .i64 unx, .slice xa VR.length xc, .slice xb VH.length xd] 27)).heap.size (v7.alloc (.cells #[.string un, .int .i64 unx, .slice xa VR.length xc, .slice xb VH.length xd] 27)) ((v7.alloc (.cells #[.string un, .int .i64 unx, .slice xa VR.length xc, .slice xb VH.length xd] 27)).alloc (.cells #[.int .i64 M.q, .string M.x, .string M.k, .string M.b, .bool M.a] 41)) := (Below.refl _ _).alloc (Nat.le_refl _) _
  have HB_ : Hid (Below w.heap.size w ((v7.alloc (.cells #[.string un, .int .i64 unx, .slice xa VR.length xc, .slice xb VH.length xd] 27)).alloc (.cells #[.int .i64 M.q, .string M.x, .string M.k, .string M.b, .bool M.a] 41))) := HB.out.trans (Below.mono hal (Below.size HB.out))
  have HQ_ : Hid (Us ((v7.alloc (.cells #[.string un, .int .i64 unx, .slice xa VR.length xc, .slice xb VH.length xd] 27)).alloc (.cells #[.int .i64 M.q, .string M.x, .string M.k, .string M.b, .bool M.a] 41)) es ms ga cg ha ch) := us_below HQ.out hal
  have BQ_ : Hid (((v7.alloc (.cells #[.string un, .int .i64 unx, .slice xa VR.length xc, .slice xb VH.length xd] 27)).alloc (.cells #[.int .i64 M.q, .string M.x, .string M.k, .string M.b, .bool M.a] 41)).heap[w1.heap.size]? = some (.cells #[.string sn, .int .i64 nx, .slice ga es.length cg, .slice ha ms.length ch] 27 (0, 0))) := bstay BQ.out hal (Array.getElem?_eq_some_iff.1 BQ.out).1
  have HR_ : Hid (Rq ((v7.alloc (.cells #[.string un, .int .i64 unx, .slice xa VR.length xc, .slice xb VH.length xd] 27)).alloc (.cells #[.int .i64 M.q, .string M.x, .string M.k, .string M.b, .bool M.a] 41)) R H (some ⟨rg, 0, none⟩) rb) := HR.out.below hal
  have BR_ : Hid (((v7.alloc (.cells #[.string un, .int .i64 unx, .slice xa VR.length xc, .slice xb VH.length xd] 27)).alloc (.cells #[.int .i64 M.q, .string M.x, .string M.k, .string M.b, .bool M.a] 41)).heap[w2.heap.size]? = some (.cells #[.string sn, .int .i64 nx, .slice (some ⟨rg, 0, none⟩) R.length rc, .slice rb H.length rd] 27 (0, 0))) := bstay BR.out hal (Array.getElem?_eq_some_iff.1 BR.out).1
  have HD_ : Hid (Rq ((v7.alloc (.cells #[.string un, .int .i64 unx, .slice xa VR.length xc, .slice xb VH.length xd] 27)).alloc (.cells #[.int .i64 M.q, .string M.x, .string M.k, .string M.b, .bool M.a] 41)) es H da db) := HD.out.below hal
  have BD_ : Hid (((v7.alloc (.cells #[.string un, .int .i64 unx, .slice xa VR.length xc, .slice xb VH.length xd] 27)).alloc (.cells #[.int .i64 M.q, .string M.x, .string M.k, .string M.b, .bool M.a] 41)).heap[w4.heap.size]? = some (.cells #[.string sn, .int .i64 nx, .slice da es.length dc, .slice db H.length dd] 27 (0, 0))) := bstay BD.out hal (Array.getElem?_eq_some_iff.1 BD.out).1
  have HP_ : Hid (Us ((v7.alloc (.cells #[.string un, .int .i64 unx, .slice xa VR.length xc, .slice xb VH.length xd] 27)).alloc (.cells #[.int .i64 M.q, .string M.x, .string M.k, .string M.b, .bool M.a] 41)) pe pm pa pc pb pd) := us_below HP.out hal
  have BP_ : Hid (((v7.alloc (.cells #[.string un, .int .i64 unx, .slice xa VR.length xc, .slice xb VH.length xd] 27)).alloc (.cells #[.int .i64 M.q, .string M.x, .string M.k, .string M.b, .bool M.a] 41)).heap[v2.heap.size]? = some (.cells #[.string pn, .int .i64 pnx, .slice pa pe.length pc, .slice pb pm.length pd] 27 (0, 0))) := bstay BP.out hal (Array.getElem?_eq_some_iff.1 BP.out).1
  have HS_ : Hid (Rq ((v7.alloc (.cells #[.string un, .int .i64 unx, .slice xa VR.length xc, .slice xb VH.length xd] 27)).alloc (.cells #[.int .i64 M.q, .string M.x, .string M.k, .string M.b, .bool M.a] 41)) SE pm (some ⟨sg, 0, none⟩) sb) := HS.out.below hal
  have BS_ : Hid (((v7.alloc (.cells #[.string un, .int .i64 unx, .slice xa VR.length xc, .slice xb VH.length xd] 27)).alloc (.cells #[.int .i64 M.q, .string M.x, .string M.k, .string M.b, .bool M.a] 41)).heap[v3.heap.size]? = some (.cells #[.string pn, .int .i64 SN, .slice (some ⟨sg, 0, none⟩) SE.length sc, .slice sb pm.length sd] 27 (0, 0))) := bstay BS.out hal (Array.getElem?_eq_some_iff.1 BS.out).1
  have HT_ : Hid (Rq ((v7.alloc (.cells #[.string un, .int .i64 unx, .slice xa VR.length xc, .slice xb VH.length xd] 27)).alloc (.cells #[.int .i64 M.q, .string M.x, .string M.k, .string M.b, .bool M.a] 41)) SE pm ta tb) := HT.out.below hal
  have BT_ : Hid (((v7.alloc (.cells #[.string un, .int .i64 unx, .slice xa VR.length xc, .slice xb VH.length xd] 27)).alloc (.cells #[.int .i64 M.q, .string M.x, .string M.k, .string M.b, .bool M.a] 41)).heap[v4.heap.size]? = some (.cells #[.string pn, .int .i64 SN, .slice ta SE.length tc, .slice tb pm.length td] 27 (0, 0))) := bstay BT.out hal (Array.getElem?_eq_some_iff.1 BT.out).1
  have HU_ : Hid (Us ((v7.alloc (.cells #[.string un, .int .i64 unx, .slice xa VR.length xc, .slice xb VH.length xd] 27)).alloc (.cells #[.int .i64 M.q, .string M.x, .string M.k, .string M.b, .bool M.a] 41)) ue um ua uc ub ud) := us_below HU.out hal
  have BU_ : Hid (((v7.alloc (.cells #[.string un, .int .i64 unx, .slice xa VR.length xc, .slice xb VH.length xd] 27)).alloc (.cells #[.int .i64 M.q, .string M.x, .string M.k, .string M.b, .bool M.a] 41)).heap[v5.heap.size]? = some (.cells #[.string un, .int .i64 unx, .slice ua ue.length uc, .slice ub um.length ud] 27 (0, 0))) := bstay BU.out hal (Array.getElem?_eq_some_iff.1 BU.out).1
  have HV_ : Hid (Rq ((v7.alloc (.cells #[.string un, .int .i64 unx, .slice xa VR.length xc, .slice xb VH.length xd] 27)).alloc (.cells #[.int .i64 M.q, .string M.x, .string M.k, .string M.b, .bool M.a] 41)) VR VH va vb) := HV.out.below hal
  have BV_ : Hid (((v7.alloc (.cells #[.string un, .int .i64 unx, .slice xa VR.length xc, .slice xb VH.length xd] 27)).alloc (.cells #[.int .i64 M.q, .string M.x, .string M.k, .string M.b, .bool M.a] 41)).heap[v6.heap.size]? = some (.cells #[.string un, .int .i64 unx, .slice va VR.length vc, .slice vb VH.length vd] 27 (0, 0))) := bstay BV.out hal (Array.getElem?_eq_some_iff.1 BV.out).1
  have BMV_ : Hid (((v7.alloc (.cells #[.string un, .int .i64 unx, .slice xa VR.length xc, .slice xb VH.length xd] 27)).alloc (.cells #[.int .i64 M.q, .string M.x, .string M.k, .string M.b, .bool M.a] 41)).heap[v6.heap.size + 1]? = some (.cells #[.int .i64 M.q, .string M.x, .string M.k, .string M.b, .bool M.a] 41 (0, 0))) := bstay BMV.out hal (Array.getElem?_eq_some_iff.1 BMV.out).1
  have HX_ : Hid (Rq ((v7.alloc (.cells #[.string un, .int .i64 unx, .slice xa VR.length xc, .slice xb VH.length xd] 27)).alloc (.cells #[.int .i64 M.q, .string M.x, .string M.k, .string M.b, .bool M.a] 41)) VR VH xa xb) := HX.out.below hal
  have BX_ : Hid (((v7.alloc (.cells #[.string un, .int .i64 unx, .slice xa VR.length xc, .slice xb VH.length xd] 27)).alloc (.cells #[.int .i64 M.q, .string M.x, .string M.k, .string M.b, .bool M.a] 41)).heap[v7.heap.size]? = some (.cells #[.string un, .int .i64 unx, .slice xa VR.length xc, .slice xb VH.length xd] 27 (0, 0))) := bstay BX.out hal (Array.getElem?_eq_some_iff.1 BX.out).1
  clear HB HQ BQ HR BR HD BD HP BP HS BS HT BT HU BU HV BV BMV HX BX
  have HB := HB_
  have HQ := HQ_
  have BQ := BQ_
  have HR := HR_
  have BR := BR_
  have HD := HD_
  have BD := BD_
  have HP := HP_
  have BP := BP_
  have HS := HS_
  have BS := BS_
  have HT := HT_
  have BT := BT_
  have HU := HU_
  have BU := BU_
  have HV := HV_
  have BV := BV_
  have BMV := BMV_
  have HX := HX_
  have BX := BX_
  clear HB_ HQ_ BQ_ HR_ BR_ HD_ BD_ HP_ BP_ HS_ BS_ HT_ BT_ HU_ BU_ HV_ BV_ BMV_ HX_ BX_
  have BMX : Hid (((v7.alloc (.cells #[.string un, .int .i64 unx, .slice xa VR.length xc, .slice xb VH.length xd] 27)).alloc (.cells #[.int .i64 M.q, .string M.x, .string M.k, .string M.b, .bool M.a] 41)).heap[v7.heap.size + 1]? = some (.cells #[.int .i64 M.q, .string M.x, .string M.k, .string M.b, .bool M.a] 41 (0, 0))) := by have h9 := bnew (v7.alloc (.cells #[.string un, .int .i64 unx, .slice xa VR.length xc, .slice xb VH.length xd] 27)) #[.int .i64 M.q, .string M.x, .string M.k, .string M.b, .bool M.a] 41; rw [World.size_alloc] at h9; exact h9
  clear hal
  have x0 : ((v7.alloc (.cells #[.string un, .int .i64 unx, .slice xa VR.length xc, .slice xb VH.length xd] 27)).alloc (.cells #[.int .i64 M.q, .string M.x, .string M.k, .string M.b, .bool M.a] 41)).cell? ⟨v3.heap.size, 0, none⟩ = some (.string pn) := bcell BS.out rfl
  have x1 : ((v7.alloc (.cells #[.string un, .int .i64 unx, .slice xa VR.length xc, .slice xb VH.length xd] 27)).alloc (.cells #[.int .i64 M.q, .string M.x, .string M.k, .string M.b, .bool M.a] 41)).cell? ⟨v3.heap.size, 1, none⟩ = some (.int .i64 SN) := bcell BS.out rfl
  have x2 : ((v7.alloc (.cells #[.string un, .int .i64 unx, .slice xa VR.length xc, .slice xb VH.length xd] 27)).alloc (.cells #[.int .i64 M.q, .string M.x, .string M.k, .string M.b, .bool M.a] 41)).cell? ⟨v3.heap.size, 2, none⟩ = some (.slice (some ⟨sg, 0, none⟩) SE.length sc) := bcell BS.out rfl
  have x3 : ((v7.alloc (.cells #[.string un, .int .i64 unx, .slice xa VR.length xc, .slice xb VH.length xd] 27)).alloc (.cells #[.int .i64 M.q, .string M.x, .string M.k, .string M.b, .bool M.a] 41)).cell? ⟨v3.heap.size, 3, none⟩ = some (.slice sb pm.length sd) := bcell BS.out rfl
  have y0 : ((v7.alloc (.cells #[.string un, .int .i64 unx, .slice xa VR.length xc, .slice xb VH.length xd] 27)).alloc (.cells #[.int .i64 M.q, .string M.x, .string M.k, .string M.b, .bool M.a] 41)).cell? ⟨v4.heap.size, 0, none⟩ = some (.string pn) := bcell BT.out rfl
  have y1 : ((v7.alloc (.cells #[.string un, .int .i64 unx, .slice xa VR.length xc, .slice xb VH.length xd] 27)).alloc (.cells #[.int .i64 M.q, .string M.x, .string M.k, .string M.b, .bool M.a] 41)).cell? ⟨v4.heap.size, 1, none⟩ = some (.int .i64 SN) := bcell BT.out rfl
  have y2 : ((v7.alloc (.cells #[.string un, .int .i64 unx, .slice xa VR.length xc, .slice xb VH.length xd] 27)).alloc (.cells #[.int .i64 M.q, .string M.x, .string M.k, .string M.b, .bool M.a] 41)).cell? ⟨v4.heap.size, 2, none⟩ = some (.slice ta SE.length tc) := bcell BT.out rfl
  have y3 : ((v7.alloc (.cells #[.string un, .int .i64 unx, .slice xa VR.length xc, .slice xb VH.length xd] 27)).alloc (.cells #[.int .i64 M.q, .string M.x, .string M.k, .string M.b, .bool M.a] 41)).cell? ⟨v4.heap.size, 3, none⟩ = some (.slice tb pm.length td) := bcell BT.out rfl
  have hgu := @meq.guard_run
  have hrn := neq_same M
  have h11a := p_same (nx := SN) (cg := sc) (ch := sd) (rc := tc) (rd := td) HS.out HT.out HSMS.out (by omega)
  go_wp2_with (go_at_call 10; fail)
  refine h11a.mono ?_
  rintro e v8b ⟨rfl, hb11a⟩
  have HB_ : Hid (Below w.heap.size w v8b) := HB.out.trans (Below.mono hb11a (Below.size HB.out))
  have HQ_ : Hid (Us v8b es ms ga cg ha ch) := us_below HQ.out hb11a
  have BQ_ : Hid (v8b.heap[w1.heap.size]? = some (.cells #[.string sn, .int .i64 nx, .slice ga es.length cg, .slice ha ms.length ch] 27 (0, 0))) := bstay BQ.out hb11a (Array.getElem?_eq_some_iff.1 BQ.out).1
  have HR_ : Hid (Rq v8b R H (some ⟨rg, 0, none⟩) rb) := HR.out.below hb11a
  have BR_ : Hid (v8b.heap[w2.heap.size]? = some (.cells #[.string sn, .int .i64 nx, .slice (some ⟨rg, 0, none⟩) R.length rc, .slice rb H.length rd] 27 (0, 0))) := bstay BR.out hb11a (Array.getElem?_eq_some_iff.1 BR.out).1
  have HD_ : Hid (Rq v8b es H da db) := HD.out.below hb11a
  have BD_ : Hid (v8b.heap[w4.heap.size]? = some (.cells #[.string sn, .int .i64 nx, .slice da es.length dc, .slice db H.length dd] 27 (0, 0))) := bstay BD.out hb11a (Array.getElem?_eq_some_iff.1 BD.out).1
  have HP_ : Hid (Us v8b pe pm pa pc pb pd) := us_below HP.out hb11a
  have BP_ : Hid (v8b.heap[v2.heap.size]? = some (.cells #[.string pn, .int .i64 pnx, .slice pa pe.length pc, .slice pb pm.length pd] 27 (0, 0))) := bstay BP.out hb11a (Array.getElem?_eq_some_iff.1 BP.out).1
  have HS_ : Hid (Rq v8b SE pm (some ⟨sg, 0, none⟩) sb) := HS.out.below hb11a
  have BS_ : Hid (v8b.heap[v3.heap.size]? = some (.cells #[.string pn, .int .i64 SN, .slice (some ⟨sg, 0, none⟩) SE.length sc, .slice sb pm.length sd] 27 (0, 0))) := bstay BS.out hb11a (Array.getElem?_eq_some_iff.1 BS.out).1
  have HT_ : Hid (Rq v8b SE pm ta tb) := HT.out.below hb11a
  have BT_ : Hid (v8b.heap[v4.heap.size]? = some (.cells #[.string pn, .int .i64 SN, .slice ta SE.length tc, .slice tb pm.length td] 27 (0, 0))) := bstay BT.out hb11a (Array.getElem?_eq_some_iff.1 BT.out).1
  have HU_ : Hid (Us v8b ue um ua uc ub ud) := us_below HU.out hb11a
  have BU_ : Hid (v8b.heap[v5.heap.size]? = some (.cells #[.string un, .int .i64 unx, .slice ua ue.length uc, .slice ub um.length ud] 27 (0, 0))) := bstay BU.out hb11a (Array.getElem?_eq_some_iff.1 BU.out).1
  have HV_ : Hid (Rq v8b VR VH va vb) := HV.out.below hb11a
  have BV_ : Hid (v8b.heap[v6.heap.size]? = some (.cells #[.string un, .int .i64 unx, .slice va VR.length vc, .slice vb VH.length vd] 27 (0, 0))) := bstay BV.out hb11a (Array.getElem?_eq_some_iff.1 BV.out).1
  have BMV_ : Hid (v8b.heap[v6.heap.size + 1]? = some (.cells #[.int .i64 M.q, .string M.x, .string M.k, .string M.b, .bool M.a] 41 (0, 0))) := bstay BMV.out hb11a (Array.getElem?_eq_some_iff.1 BMV.out).1
  have HX_ : Hid (Rq v8b VR VH xa xb) := HX.out.below hb11a
  have BX_ : Hid (v8b.heap[v7.heap.size]? = some (.cells #[.string un, .int .i64 unx, .slice xa VR.length xc, .slice xb VH.length xd] 27 (0, 0))) := bstay BX.out hb11a (Array.getElem?_eq_some_iff.1 BX.out).1
  have BMX_ : Hid (v8b.heap[v7.heap.size + 1]? = some (.cells #[.int .i64 M.q, .string M.x, .string M.k, .string M.b, .bool M.a] 41 (0, 0))) := bstay BMX.out hb11a (Array.getElem?_eq_some_iff.1 BMX.out).1
  clear HB HQ BQ HR BR HD BD HP BP HS BS HT BT HU BU HV BV BMV HX BX BMX
  have HB := HB_
  have HQ := HQ_
  have BQ := BQ_
  have HR := HR_
  have BR := BR_
  have HD := HD_
  have BD := BD_
  have HP := HP_
  have BP := BP_
  have HS := HS_
  have BS := BS_
  have HT := HT_
  have BT := BT_
  have HU := HU_
  have BU := BU_
  have HV := HV_
  have BV := BV_
  have BMV := BMV_
  have HX := HX_
  have BX := BX_
  have BMX := BMX_
  clear HB_ HQ_ BQ_ HR_ BR_ HD_ BD_ HP_ BP_ HS_ BS_ HT_ BT_ HU_ BU_ HV_ BV_ BMV_ HX_ BX_ BMX_
  clear h11a hb11a x0 x1 x2 x3 y0 y1 y2 y3
  have x0 : v8b.cell? ⟨v6.heap.size, 0, none⟩ = some (.string un) := bcell BV.out rfl
  have x1 : v8b.cell? ⟨v6.heap.size, 1, none⟩ = some (.int .i64 unx) := bcell BV.out rfl
  have x2 : v8b.cell? ⟨v6.heap.size, 2, none⟩ = some (.slice va VR.length vc) := bcell BV.out rfl
  have x3 : v8b.cell? ⟨v6.heap.size, 3, none⟩ = some (.slice vb VH.length vd) := bcell BV.out rfl
  have y0 : v8b.cell? ⟨v7.heap.size, 0, none⟩ = some (.string un) := bcell BX.out rfl
  have y1 : v8b.cell? ⟨v7.heap.size, 1, none⟩ = some (.int .i64 unx) := bcell BX.out rfl
  have y2 : v8b.cell? ⟨v7.heap.size, 2, none⟩ = some (.slice xa VR.length xc) := bcell BX.out rfl
  have y3 : v8b.cell? ⟨v7.heap.size, 3, none⟩ = some (.slice xb VH.length xd) := bcell BX.out rfl
  have z0 : v8b.cell? ⟨v6.heap.size + 1, 0, none⟩ = some (.int .i64 M.q) := bcell BMV.out rfl
  have z1 : v8b.cell? ⟨v6.heap.size + 1, 1, none⟩ = some (.string M.x) := bcell BMV.out rfl
  have z2 : v8b.cell? ⟨v6.heap.size + 1, 2, none⟩ = some (.string M.k) := bcell BMV.out rfl
  have z3 : v8b.cell? ⟨v6.heap.size + 1, 3, none⟩ = some (.string M.b) := bcell BMV.out rfl
  have z4 : v8b.cell? ⟨v6.heap.size + 1, 4, none⟩ = some (.bool M.a) := bcell BMV.out rfl
  have u0 : v8b.cell? ⟨v7.heap.size + 1, 0, none⟩ = some (.int .i64 M.q) := bcell BMX.out rfl
  have u1 : v8b.cell? ⟨v7.heap.size + 1, 1, none⟩ = some (.string M.x) := bcell BMX.out rfl
  have u2 : v8b.cell? ⟨v7.heap.size + 1, 2, none⟩ = some (.string M.k) := bcell BMX.out rfl
  have u3 : v8b.cell? ⟨v7.heap.size + 1, 3, none⟩ = some (.string M.b) := bcell BMX.out rfl
  have u4 : v8b.cell? ⟨v7.heap.size + 1, 4, none⟩ = some (.bool M.a) := bcell BMX.out rfl
  have h11b := p_same (nx := unx) (cg := vc) (ch := vd) (rc := xc) (rd := xd) HV.out HX.out HSMV.out (by omega)
  go_wp2_with (go_at_call 10; fail)
  refine h11b.mono ?_
  rintro e v9 ⟨rfl, hb11b⟩
  have HB_ : Hid (Below w.heap.size w v9) := HB.out.trans (Below.mono hb11b (Below.size HB.out))
  have HQ_ : Hid (Us v9 es ms ga cg ha ch) := us_below HQ.out hb11b
  have BQ_ : Hid (v9.heap[w1.heap.size]? = some (.cells #[.string sn, .int .i64 nx, .slice ga es.length cg, .slice ha ms.length ch] 27 (0, 0))) := bstay BQ.out hb11b (Array.getElem?_eq_some_iff.1 BQ.out).1
  have HR_ : Hid (Rq v9 R H (some ⟨rg, 0, none⟩) rb) := HR.out.below hb11b
  have BR_ : Hid (v9.heap[w2.heap.size]? = some (.cells #[.string sn, .int .i64 nx, .slice (some ⟨rg, 0, none⟩) R.length rc, .slice rb H.length rd] 27 (0, 0))) := bstay BR.out hb11b (Array.getElem?_eq_some_iff.1 BR.out).1
  have HD_ : Hid (Rq v9 es H da db) := HD.out.below hb11b
  have BD_ : Hid (v9.heap[w4.heap.size]? = some (.cells #[.string sn, .int .i64 nx, .slice da es.length dc, .slice db H.length dd] 27 (0, 0))) := bstay BD.out hb11b (Array.getElem?_eq_some_iff.1 BD.out).1
  have HP_ : Hid (Us v9 pe pm pa pc pb pd) := us_below HP.out hb11b
  have BP_ : Hid (v9.heap[v2.heap.size]? = some (.cells #[.string pn, .int .i64 pnx, .slice pa pe.length pc, .slice pb pm.length pd] 27 (0, 0))) := bstay BP.out hb11b (Array.getElem?_eq_some_iff.1 BP.out).1
  have HS_ : Hid (Rq v9 SE pm (some ⟨sg, 0, none⟩) sb) := HS.out.below hb11b
  have BS_ : Hid (v9.heap[v3.heap.size]? = some (.cells #[.string pn, .int .i64 SN, .slice (some ⟨sg, 0, none⟩) SE.length sc, .slice sb pm.length sd] 27 (0, 0))) := bstay BS.out hb11b (Array.getElem?_eq_some_iff.1 BS.out).1
  have HT_ : Hid (Rq v9 SE pm ta tb) := HT.out.below hb11b
  have BT_ : Hid (v9.heap[v4.heap.size]? = some (.cells #[.string pn, .int .i64 SN, .slice ta SE.length tc, .slice tb pm.length td] 27 (0, 0))) := bstay BT.out hb11b (Array.getElem?_eq_some_iff.1 BT.out).1
  have HU_ : Hid (Us v9 ue um ua uc ub ud) := us_below HU.out hb11b
  have BU_ : Hid (v9.heap[v5.heap.size]? = some (.cells #[.string un, .int .i64 unx, .slice ua ue.length uc, .slice ub um.length ud] 27 (0, 0))) := bstay BU.out hb11b (Array.getElem?_eq_some_iff.1 BU.out).1
  have HV_ : Hid (Rq v9 VR VH va vb) := HV.out.below hb11b
  have BV_ : Hid (v9.heap[v6.heap.size]? = some (.cells #[.string un, .int .i64 unx, .slice va VR.length vc, .slice vb VH.length vd] 27 (0, 0))) := bstay BV.out hb11b (Array.getElem?_eq_some_iff.1 BV.out).1
  have BMV_ : Hid (v9.heap[v6.heap.size + 1]? = some (.cells #[.int .i64 M.q, .string M.x, .string M.k, .string M.b, .bool M.a] 41 (0, 0))) := bstay BMV.out hb11b (Array.getElem?_eq_some_iff.1 BMV.out).1
  have HX_ : Hid (Rq v9 VR VH xa xb) := HX.out.below hb11b
  have BX_ : Hid (v9.heap[v7.heap.size]? = some (.cells #[.string un, .int .i64 unx, .slice xa VR.length xc, .slice xb VH.length xd] 27 (0, 0))) := bstay BX.out hb11b (Array.getElem?_eq_some_iff.1 BX.out).1
  have BMX_ : Hid (v9.heap[v7.heap.size + 1]? = some (.cells #[.int .i64 M.q, .string M.x, .string M.k, .string M.b, .bool M.a] 41 (0, 0))) := bstay BMX.out hb11b (Array.getElem?_eq_some_iff.1 BMX.out).1
  clear HB HQ BQ HR BR HD BD HP BP HS BS HT BT HU BU HV BV BMV HX BX BMX
  have HB := HB_
  have HQ := HQ_
  have BQ := BQ_
  have HR := HR_
  have BR := BR_
  have HD := HD_
  have BD := BD_
  have HP := HP_
  have BP := BP_
  have HS := HS_
  have BS := BS_
  have HT := HT_
  have BT := BT_
  have HU := HU_
  have BU := BU_
  have HV := HV_
  have BV := BV_
  have BMV := BMV_
  have HX := HX_
  have BX := BX_
  have BMX := BMX_
  clear HB_ HQ_ BQ_ HR_ BR_ HD_ BD_ HP_ BP_ HS_ BS_ HT_ BT_ HU_ BU_ HV_ BV_ BMV_ HX_ BX_ BMX_
  clear h11b hb11b x0 x1 x2 x3 y0 y1 y2 y3 z0 z1 z2 z3 z4 u0 u1 u2 u3 u4 hgu hrn
  clear BT
  clear BX
  clear BMX
  clear HT
  clear HX
  cases gd
  case' true =>
    obtain ⟨g1, g2, g3, g4, g5⟩ := HGD.out rfl
    have h12 := t_ret (nx := unx) (cg := vc) (ch := vd) HV.out HSMV.out (by omega) o2 t2 false
    obtain ⟨KH, hKH⟩ : ∃ x, qdp.ansH un unx VR VH o2 t2 false = x := ⟨_, rfl⟩
    rw [g5, hKH, g4, List.length_cons, ← g1] at h12
    have HU0 : Hid (ue[0]? = some M) := g2
    have HVO : Hid (okB un unx VR VH = true) := g3
    have hu0 : 0 < ue.length := by omega
    obtain ⟨ug, hug⟩ : ∃ g, ua = some ⟨g, 0, none⟩ := by
      rcases HU.out.ay with h | h
      · rw [h] at hu0; exact absurd hu0 (Nat.lt_irrefl 0)
      · exact h
    subst hug
    clear g1 g2 g3 g4 g5 hKH
    have x0 : v9.cell? ⟨v6.heap.size, 0, none⟩ = some (.string un) := bcell BV.out rfl
    have x1 : v9.cell? ⟨v6.heap.size, 1, none⟩ = some (.int .i64 unx) := bcell BV.out rfl
    have x2 : v9.cell? ⟨v6.heap.size, 2, none⟩ = some (.slice va VR.length vc) := bcell BV.out rfl
    have x3 : v9.cell? ⟨v6.heap.size, 3, none⟩ = some (.slice vb VH.length vd) := bcell BV.out rfl
    go_wp2_with (go_at_call 6; fail)
    refine h12.mono ?_
    rintro e v10 ⟨kg, kc, kb, kd, rfl, hi12, hb12⟩
    have HB_ : Hid (Below w.heap.size w v10) := HB.out.trans (Below.mono hb12 (Below.size HB.out))
    have HQ_ : Hid (Us v10 es ms ga cg ha ch) := us_below HQ.out hb12
    have BQ_ : Hid (v10.heap[w1.heap.size]? = some (.cells #[.string sn, .int .i64 nx, .slice ga es.length cg, .slice ha ms.length ch] 27 (0, 0))) := bstay BQ.out hb12 (Array.getElem?_eq_some_iff.1 BQ.out).1
    have HR_ : Hid (Rq v10 R H (some ⟨rg, 0, none⟩) rb) := HR.out.below hb12
    have BR_ : Hid (v10.heap[w2.heap.size]? = some (.cells #[.string sn, .int .i64 nx, .slice (some ⟨rg, 0, none⟩) R.length rc, .slice rb H.length rd] 27 (0, 0))) := bstay BR.out hb12 (Array.getElem?_eq_some_iff.1 BR.out).1
    have HD_ : Hid (Rq v10 es H da db) := HD.out.below hb12
    have BD_ : Hid (v10.heap[w4.heap.size]? = some (.cells #[.string sn, .int .i64 nx, .slice da es.length dc, .slice db H.length dd] 27 (0, 0))) := bstay BD.out hb12 (Array.getElem?_eq_some_iff.1 BD.out).1
    have HP_ : Hid (Us v10 pe pm pa pc pb pd) := us_below HP.out hb12
    have BP_ : Hid (v10.heap[v2.heap.size]? = some (.cells #[.string pn, .int .i64 pnx, .slice pa pe.length pc, .slice pb pm.length pd] 27 (0, 0))) := bstay BP.out hb12 (Array.getElem?_eq_some_iff.1 BP.out).1
    have HS_ : Hid (Rq v10 SE pm (some ⟨sg, 0, none⟩) sb) := HS.out.below hb12
    have BS_ : Hid (v10.heap[v3.heap.size]? = some (.cells #[.string pn, .int .i64 SN, .slice (some ⟨sg, 0, none⟩) SE.length sc, .slice sb pm.length sd] 27 (0, 0))) := bstay BS.out hb12 (Array.getElem?_eq_some_iff.1 BS.out).1
    have HU_ : Hid (Us v10 ue um (some ⟨ug, 0, none⟩) uc ub ud) := us_below HU.out hb12
    have BU_ : Hid (v10.heap[v5.heap.size]? = some (.cells #[.string un, .int .i64 unx, .slice (some ⟨ug, 0, none⟩) ue.length uc, .slice ub um.length ud] 27 (0, 0))) := bstay BU.out hb12 (Array.getElem?_eq_some_iff.1 BU.out).1
    have HV_ : Hid (Rq v10 VR VH va vb) := HV.out.below hb12
    have BV_ : Hid (v10.heap[v6.heap.size]? = some (.cells #[.string un, .int .i64 unx, .slice va VR.length vc, .slice vb VH.length vd] 27 (0, 0))) := bstay BV.out hb12 (Array.getElem?_eq_some_iff.1 BV.out).1
    have BMV_ : Hid (v10.heap[v6.heap.size + 1]? = some (.cells #[.int .i64 M.q, .string M.x, .string M.k, .string M.b, .bool M.a] 41 (0, 0))) := bstay BMV.out hb12 (Array.getElem?_eq_some_iff.1 BMV.out).1
    clear HB HQ BQ HR BR HD BD HP BP HS BS HU BU HV BV BMV
    have HB := HB_
    have HQ := HQ_
    have BQ := BQ_
    have HR := HR_
    have BR := BR_
    have HD := HD_
    have BD := BD_
    have HP := HP_
    have BP := BP_
    have HS := HS_
    have BS := BS_
    have HU := HU_
    have BU := BU_
    have HV := HV_
    have BV := BV_
    have BMV := BMV_
    clear HB_ HQ_ BQ_ HR_ BR_ HD_ BD_ HP_ BP_ HS_ BS_ HU_ BU_ HV_ BV_ BMV_
    clear h12 hb12 x0 x1 x2 x3
    have HK : Hid (Rq v10 (⟨M.q, M.x, M.k, M.b, true⟩ :: VR) KH (some ⟨kg, 0, none⟩) kb) := hi12
    clear hi12
    have hal : Below v10.heap.size v10 (v10.alloc (.cells #[.string un, .int .i64 unx, .slice (some ⟨kg, 0, none⟩) (ue.length) kc, .slice kb KH.length kd] 27)) := (Below.refl _ _).alloc (Nat.le_refl _) _
    have HB_ : Hid (Below w.heap.size w (v10.alloc (.cells #[.string un, .int .i64 unx, .slice (some ⟨kg, 0, none⟩) (ue.length) kc, .slice kb KH.length kd] 27))) := HB.out.trans (Below.mono hal (Below.size HB.out))
    have HQ_ : Hid (Us (v10.alloc (.cells #[.string un, .int .i64 unx, .slice (some ⟨kg, 0, none⟩) (ue.length) kc, .slice kb KH.length kd] 27)) es ms ga cg ha ch) := us_below HQ.out hal
    have BQ_ : Hid ((v10.alloc (.cells #[.string un, .int .i64 unx, .slice (some ⟨kg, 0, none⟩) (ue.length) kc, .slice kb KH.length kd] 27)).heap[w1.heap.size]? = some (.cells #[.string sn, .int .i64 nx, .slice ga es.length cg, .slice ha ms.length ch] 27 (0, 0))) := bstay BQ.out hal (Array.getElem?_eq_some_iff.1 BQ.out).1
    have HR_ : Hid (Rq (v10.alloc (.cells #[.string un, .int .i64 unx, .slice (some ⟨kg, 0, none⟩) (ue.length) kc, .slice kb KH.length kd] 27)) R H (some ⟨rg, 0, none⟩) rb) := HR.out.below hal
    have BR_ : Hid ((v10.alloc (.cells #[.string un, .int .i64 unx, .slice (some ⟨kg, 0, none⟩) (ue.length) kc, .slice kb KH.length kd] 27)).heap[w2.heap.size]? = some (.cells #[.string sn, .int .i64 nx, .slice (some ⟨rg, 0, none⟩) R.length rc, .slice rb H.length rd] 27 (0, 0))) := bstay BR.out hal (Array.getElem?_eq_some_iff.1 BR.out).1
    have HD_ : Hid (Rq (v10.alloc (.cells #[.string un, .int .i64 unx, .slice (some ⟨kg, 0, none⟩) (ue.length) kc, .slice kb KH.length kd] 27)) es H da db) := HD.out.below hal
    have BD_ : Hid ((v10.alloc (.cells #[.string un, .int .i64 unx, .slice (some ⟨kg, 0, none⟩) (ue.length) kc, .slice kb KH.length kd] 27)).heap[w4.heap.size]? = some (.cells #[.string sn, .int .i64 nx, .slice da es.length dc, .slice db H.length dd] 27 (0, 0))) := bstay BD.out hal (Array.getElem?_eq_some_iff.1 BD.out).1
    have HP_ : Hid (Us (v10.alloc (.cells #[.string un, .int .i64 unx, .slice (some ⟨kg, 0, none⟩) (ue.length) kc, .slice kb KH.length kd] 27)) pe pm pa pc pb pd) := us_below HP.out hal
    have BP_ : Hid ((v10.alloc (.cells #[.string un, .int .i64 unx, .slice (some ⟨kg, 0, none⟩) (ue.length) kc, .slice kb KH.length kd] 27)).heap[v2.heap.size]? = some (.cells #[.string pn, .int .i64 pnx, .slice pa pe.length pc, .slice pb pm.length pd] 27 (0, 0))) := bstay BP.out hal (Array.getElem?_eq_some_iff.1 BP.out).1
    have HS_ : Hid (Rq (v10.alloc (.cells #[.string un, .int .i64 unx, .slice (some ⟨kg, 0, none⟩) (ue.length) kc, .slice kb KH.length kd] 27)) SE pm (some ⟨sg, 0, none⟩) sb) := HS.out.below hal
    have BS_ : Hid ((v10.alloc (.cells #[.string un, .int .i64 unx, .slice (some ⟨kg, 0, none⟩) (ue.length) kc, .slice kb KH.length kd] 27)).heap[v3.heap.size]? = some (.cells #[.string pn, .int .i64 SN, .slice (some ⟨sg, 0, none⟩) SE.length sc, .slice sb pm.length sd] 27 (0, 0))) := bstay BS.out hal (Array.getElem?_eq_some_iff.1 BS.out).1
    have HU_ : Hid (Us (v10.alloc (.cells #[.string un, .int .i64 unx, .slice (some ⟨kg, 0, none⟩) (ue.length) kc, .slice kb KH.length kd] 27)) ue um (some ⟨ug, 0, none⟩) uc ub ud) := us_below HU.out hal
    have BU_ : Hid ((v10.alloc (.cells #[.string un, .int .i64 unx, .slice (some ⟨kg, 0, none⟩) (ue.length) kc, .slice kb KH.length kd] 27)).heap[v5.heap.size]? = some (.cells #[.string un, .int .i64 unx, .slice (some ⟨ug, 0, none⟩) ue.length uc, .slice ub um.length ud] 27 (0, 0))) := bstay BU.out hal (Array.getElem?_eq_some_iff.1 BU.out).1
    have HV_ : Hid (Rq (v10.alloc (.cells #[.string un, .int .i64 unx, .slice (some ⟨kg, 0, none⟩) (ue.length) kc, .slice kb KH.length kd] 27)) VR VH va vb) := HV.out.below hal
    have BV_ : Hid ((v10.alloc (.cells #[.string un, .int .i64 unx, .slice (some ⟨kg, 0, none⟩) (ue.length) kc, .slice kb KH.length kd] 27)).heap[v6.heap.size]? = some (.cells #[.string un, .int .i64 unx, .slice va VR.length vc, .slice vb VH.length vd] 27 (0, 0))) := bstay BV.out hal (Array.getElem?_eq_some_iff.1 BV.out).1
    have BMV_ : Hid ((v10.alloc (.cells #[.string un, .int .i64 unx, .slice (some ⟨kg, 0, none⟩) (ue.length) kc, .slice kb KH.length kd] 27)).heap[v6.heap.size + 1]? = some (.cells #[.int .i64 M.q, .string M.x, .string M.k, .string M.b, .bool M.a] 41 (0, 0))) := bstay BMV.out hal (Array.getElem?_eq_some_iff.1 BMV.out).1
    have HK_ : Hid (Rq (v10.alloc (.cells #[.string un, .int .i64 unx, .slice (some ⟨kg, 0, none⟩) (ue.length) kc, .slice kb KH.length kd] 27)) (⟨M.q, M.x, M.k, M.b, true⟩ :: VR) KH (some ⟨kg, 0, none⟩) kb) := HK.out.below hal
    clear HB HQ BQ HR BR HD BD HP BP HS BS HU BU HV BV BMV HK
    have HB := HB_
    have HQ := HQ_
    have BQ := BQ_
    have HR := HR_
    have BR := BR_
    have HD := HD_
    have BD := BD_
    have HP := HP_
    have BP := BP_
    have HS := HS_
    have BS := BS_
    have HU := HU_
    have BU := BU_
    have HV := HV_
    have BV := BV_
    have BMV := BMV_
    have HK := HK_
    clear HB_ HQ_ BQ_ HR_ BR_ HD_ BD_ HP_ BP_ HS_ BS_ HU_ BU_ HV_ BV_ BMV_ HK_
    have BK : Hid ((v10.alloc (.cells #[.string un, .int .i64 unx, .slice (some ⟨kg, 0, none⟩) (ue.length) kc, .slice kb KH.length kd] 27)).heap[v10.heap.size]? = some (.cells #[.string un, .int .i64 unx, .slice (some ⟨kg, 0, none⟩) (ue.length) kc, .slice kb KH.length kd] 27 (0, 0))) := bnew v10 _ _
    clear hal
    go_wp2
    obtain ⟨v11, hv11⟩ : ∃ x, (v10.alloc (.cells #[.string un, .int .i64 unx, .slice (some ⟨kg, 0, none⟩) (ue.length) kc, .slice kb KH.length kd] 27)) = x := ⟨_, rfl⟩
    rw [hv11] at HB HQ BQ HR BR HD BD HP BP HS BS HU BU HV BV BMV HK BK ⊢
    clear hv11
    have x0 : ∀ N : qi.Cls v11, N.x.cell? ⟨v10.heap.size, 0, none⟩ = some (.string un) := fun N => bcell (bstay BK.out N.h (Array.getElem?_eq_some_iff.1 BK.out).1) rfl
    have x1 : ∀ N : qi.Cls v11, N.x.cell? ⟨v10.heap.size, 1, none⟩ = some (.int .i64 unx) := fun N => bcell (bstay BK.out N.h (Array.getElem?_eq_some_iff.1 BK.out).1) rfl
    have x2 : ∀ N : qi.Cls v11, N.x.cell? ⟨v10.heap.size, 2, none⟩ = some (.slice (some ⟨kg, 0, none⟩) (ue.length) kc) := fun N => bcell (bstay BK.out N.h (Array.getElem?_eq_some_iff.1 BK.out).1) rfl
    have x3 : ∀ N : qi.Cls v11, N.x.cell? ⟨v10.heap.size, 3, none⟩ = some (.slice kb KH.length kd) := fun N => bcell (bstay BK.out N.h (Array.getElem?_eq_some_iff.1 BK.out).1) rfl
    have y0 : ∀ N : qi.Cls v11, N.x.cell? ⟨v5.heap.size, 0, none⟩ = some (.string un) := fun N => bcell (bstay BU.out N.h (Array.getElem?_eq_some_iff.1 BU.out).1) rfl
    have y1 : ∀ N : qi.Cls v11, N.x.cell? ⟨v5.heap.size, 1, none⟩ = some (.int .i64 unx) := fun N => bcell (bstay BU.out N.h (Array.getElem?_eq_some_iff.1 BU.out).1) rfl
    have y2 : ∀ N : qi.Cls v11, N.x.cell? ⟨v5.heap.size, 2, none⟩ = some (.slice (some ⟨ug, 0, none⟩) ue.length uc) := fun N => bcell (bstay BU.out N.h (Array.getElem?_eq_some_iff.1 BU.out).1) rfl
    have y3 : ∀ N : qi.Cls v11, N.x.cell? ⟨v5.heap.size, 3, none⟩ = some (.slice ub um.length ud) := fun N => bcell (bstay BU.out N.h (Array.getElem?_eq_some_iff.1 BU.out).1) rfl
    have z0 : ∀ N : qi.Cls v11, N.x.cell? ⟨v6.heap.size, 0, none⟩ = some (.string un) := fun N => bcell (bstay BV.out N.h (Array.getElem?_eq_some_iff.1 BV.out).1) rfl
    have z1 : ∀ N : qi.Cls v11, N.x.cell? ⟨v6.heap.size, 1, none⟩ = some (.int .i64 unx) := fun N => bcell (bstay BV.out N.h (Array.getElem?_eq_some_iff.1 BV.out).1) rfl
    have z2 : ∀ N : qi.Cls v11, N.x.cell? ⟨v6.heap.size, 2, none⟩ = some (.slice va VR.length vc) := fun N => bcell (bstay BV.out N.h (Array.getElem?_eq_some_iff.1 BV.out).1) rfl
    have z3 : ∀ N : qi.Cls v11, N.x.cell? ⟨v6.heap.size, 3, none⟩ = some (.slice vb VH.length vd) := fun N => bcell (bstay BV.out N.h (Array.getElem?_eq_some_iff.1 BV.out).1) rfl
    have u0 : ∀ N : qi.Cls v11, N.x.cell? ⟨v6.heap.size + 1, 0, none⟩ = some (.int .i64 M.q) := fun N => bcell (bstay BMV.out N.h (Array.getElem?_eq_some_iff.1 BMV.out).1) rfl
    have u1 : ∀ N : qi.Cls v11, N.x.cell? ⟨v6.heap.size + 1, 1, none⟩ = some (.string M.x) := fun N => bcell (bstay BMV.out N.h (Array.getElem?_eq_some_iff.1 BMV.out).1) rfl
    have u2 : ∀ N : qi.Cls v11, N.x.cell? ⟨v6.heap.size + 1, 2, none⟩ = some (.string M.k) := fun N => bcell (bstay BMV.out N.h (Array.getElem?_eq_some_iff.1 BMV.out).1) rfl
    have u3 : ∀ N : qi.Cls v11, N.x.cell? ⟨v6.heap.size + 1, 3, none⟩ = some (.string M.b) := fun N => bcell (bstay BMV.out N.h (Array.getElem?_eq_some_iff.1 BMV.out).1) rfl
    have u4 : ∀ N : qi.Cls v11, N.x.cell? ⟨v6.heap.size + 1, 4, none⟩ = some (.bool M.a) := fun N => bcell (bstay BMV.out N.h (Array.getElem?_eq_some_iff.1 BMV.out).1) rfl
    have r0 : ∀ N : qi.Cls v11, N.x.cell? ⟨ug, 0, none⟩ = some (.int .i64 M.q) := fun N => by have h9 := Rq.at (us_rq (us_below HU.out N.h)) HU0.out; simp only [Nat.zero_mul, Nat.zero_add] at h9; exact h9.1
    have r1 : ∀ N : qi.Cls v11, N.x.cell? ⟨ug, 1, none⟩ = some (.string M.x) := fun N => by have h9 := Rq.at (us_rq (us_below HU.out N.h)) HU0.out; simp only [Nat.zero_mul, Nat.zero_add] at h9; exact h9.2.1
    have r2 : ∀ N : qi.Cls v11, N.x.cell? ⟨ug, 2, none⟩ = some (.string M.k) := fun N => by have h9 := Rq.at (us_rq (us_below HU.out N.h)) HU0.out; simp only [Nat.zero_mul, Nat.zero_add] at h9; exact h9.2.2.1
    have r3 : ∀ N : qi.Cls v11, N.x.cell? ⟨ug, 3, none⟩ = some (.string M.b) := fun N => by have h9 := Rq.at (us_rq (us_below HU.out N.h)) HU0.out; simp only [Nat.zero_mul, Nat.zero_add] at h9; exact h9.2.2.2.1
    have r4 : ∀ N : qi.Cls v11, N.x.cell? ⟨ug, 4, none⟩ = some (.bool M.a) := fun N => by have h9 := Rq.at (us_rq (us_below HU.out N.h)) HU0.out; simp only [Nat.zero_mul, Nat.zero_add] at h9; exact h9.2.2.2.2
    have q0 : ∀ N : qi.Cls v11, N.x.cell? ⟨kg, 0, none⟩ = some (.int .i64 M.q) := fun N => by have h9 := Rq.at (i := 0) (HK.out.below N.h) rfl; simp only [Nat.zero_mul, Nat.zero_add] at h9; exact h9.1
    have q1 : ∀ N : qi.Cls v11, N.x.cell? ⟨kg, 4, none⟩ = some (.bool true) := fun N => by have h9 := Rq.at (i := 0) (HK.out.below N.h) rfl; simp only [Nat.zero_mul, Nat.zero_add] at h9; exact h9.2.2.2.2
    have k1' : ∀ N : qi.Cls v11, Calls Try.prog 11 #[.agg #[.string un, .int .i64 unx, .slice va VR.length vc, .slice vb VH.length vd]] N.x fun e w' => e = .returned (.bool true) ∧ Below N.x.heap.size N.x w' := fun N => by have h9 := p_ok (nx := unx) (cg := vc) (ch := vd) (HV.out.below N.h) HSMV.out (by omega); rwa [HVO.out] at h9
    have k1 : ∀ N : qi.Cls v11, Calls Try.prog 11 #[.agg #[.string un, .int .i64 unx, .slice va VR.length vc, .slice vb VH.length vd]] N.x fun e w' => e = .returned (.bool true) ∧ qi.T v11 w' := fun N => (k1' N).mono fun e w' ⟨h1, h2⟩ => ⟨h1, Below.trans N.h (Below.mono h2 (Below.size N.h))⟩
    clear k1'
    have hgu := @meq.guard_run
    have hrn := neq_same M
    refine qi.region_in v11 (qi.T.refl v11) (by kernel_rfl) (by kernel_rfl) ?_
    repeat (go_big_quiet_step (first | (go_at_call 11; with_reducible refine (k1 _).mono ?_; rintro e wx ⟨rfl, hTx⟩; exact ⟨rfl, ⟨wx, hTx⟩, rfl⟩)))
    refine wpQuiet_nil ?_
    rintro _ ⟨N, rfl⟩
    have hN := N.h
    generalize N.x = v12 at hN ⊢
    clear N k1 hgu hrn q0 q1 hu0 x0 x1 x2 x3 y0 y1 y2 y3 z0 z1 z2 z3 u0 u1 u2 u3 u4 r0 r1 r2 r3 r4
    have hbN : Below v11.heap.size v11 v12 := hN
    have HB_ : Hid (Below w.heap.size w v12) := HB.out.trans (Below.mono hbN (Below.size HB.out))
    have HQ_ : Hid (Us v12 es ms ga cg ha ch) := us_below HQ.out hbN
    have BQ_ : Hid (v12.heap[w1.heap.size]? = some (.cells #[.string sn, .int .i64 nx, .slice ga es.length cg, .slice ha ms.length ch] 27 (0, 0))) := bstay BQ.out hbN (Array.getElem?_eq_some_iff.1 BQ.out).1
    have HR_ : Hid (Rq v12 R H (some ⟨rg, 0, none⟩) rb) := HR.out.below hbN
    have BR_ : Hid (v12.heap[w2.heap.size]? = some (.cells #[.string sn, .int .i64 nx, .slice (some ⟨rg, 0, none⟩) R.length rc, .slice rb H.length rd] 27 (0, 0))) := bstay BR.out hbN (Array.getElem?_eq_some_iff.1 BR.out).1
    have HD_ : Hid (Rq v12 es H da db) := HD.out.below hbN
    have BD_ : Hid (v12.heap[w4.heap.size]? = some (.cells #[.string sn, .int .i64 nx, .slice da es.length dc, .slice db H.length dd] 27 (0, 0))) := bstay BD.out hbN (Array.getElem?_eq_some_iff.1 BD.out).1
    have HP_ : Hid (Us v12 pe pm pa pc pb pd) := us_below HP.out hbN
    have BP_ : Hid (v12.heap[v2.heap.size]? = some (.cells #[.string pn, .int .i64 pnx, .slice pa pe.length pc, .slice pb pm.length pd] 27 (0, 0))) := bstay BP.out hbN (Array.getElem?_eq_some_iff.1 BP.out).1
    have HS_ : Hid (Rq v12 SE pm (some ⟨sg, 0, none⟩) sb) := HS.out.below hbN
    have BS_ : Hid (v12.heap[v3.heap.size]? = some (.cells #[.string pn, .int .i64 SN, .slice (some ⟨sg, 0, none⟩) SE.length sc, .slice sb pm.length sd] 27 (0, 0))) := bstay BS.out hbN (Array.getElem?_eq_some_iff.1 BS.out).1
    have HU_ : Hid (Us v12 ue um (some ⟨ug, 0, none⟩) uc ub ud) := us_below HU.out hbN
    have BU_ : Hid (v12.heap[v5.heap.size]? = some (.cells #[.string un, .int .i64 unx, .slice (some ⟨ug, 0, none⟩) ue.length uc, .slice ub um.length ud] 27 (0, 0))) := bstay BU.out hbN (Array.getElem?_eq_some_iff.1 BU.out).1
    have HV_ : Hid (Rq v12 VR VH va vb) := HV.out.below hbN
    have BV_ : Hid (v12.heap[v6.heap.size]? = some (.cells #[.string un, .int .i64 unx, .slice va VR.length vc, .slice vb VH.length vd] 27 (0, 0))) := bstay BV.out hbN (Array.getElem?_eq_some_iff.1 BV.out).1
    have BMV_ : Hid (v12.heap[v6.heap.size + 1]? = some (.cells #[.int .i64 M.q, .string M.x, .string M.k, .string M.b, .bool M.a] 41 (0, 0))) := bstay BMV.out hbN (Array.getElem?_eq_some_iff.1 BMV.out).1
    have HK_ : Hid (Rq v12 (⟨M.q, M.x, M.k, M.b, true⟩ :: VR) KH (some ⟨kg, 0, none⟩) kb) := HK.out.below hbN
    have BK_ : Hid (v12.heap[v10.heap.size]? = some (.cells #[.string un, .int .i64 unx, .slice (some ⟨kg, 0, none⟩) (ue.length) kc, .slice kb KH.length kd] 27 (0, 0))) := bstay BK.out hbN (Array.getElem?_eq_some_iff.1 BK.out).1
    clear HB HQ BQ HR BR HD BD HP BP HS BS HU BU HV BV BMV HK BK
    have HB := HB_
    have HQ := HQ_
    have BQ := BQ_
    have HR := HR_
    have BR := BR_
    have HD := HD_
    have BD := BD_
    have HP := HP_
    have BP := BP_
    have HS := HS_
    have BS := BS_
    have HU := HU_
    have BU := BU_
    have HV := HV_
    have BV := BV_
    have BMV := BMV_
    have HK := HK_
    have BK := BK_
    clear HB_ HQ_ BQ_ HR_ BR_ HD_ BD_ HP_ BP_ HS_ BS_ HU_ BU_ HV_ BV_ BMV_ HK_ BK_
    clear hN hbN
    clear BK
    clear HK
  case' false =>
    obtain ⟨v12, hv12⟩ : ∃ v, v = v9 := ⟨_, rfl⟩
    subst hv12
  all_goals
    clear BU HU BV HV BMV HGD HSMU HSMV
    have y0 : v12.cell? ⟨w2.heap.size, 0, none⟩ = some (.string sn) := bcell BR.out rfl
    have y1 : v12.cell? ⟨w2.heap.size, 1, none⟩ = some (.int .i64 nx) := bcell BR.out rfl
    have y2 : v12.cell? ⟨w2.heap.size, 2, none⟩ = some (.slice (some ⟨rg, 0, none⟩) R.length rc) := bcell BR.out rfl
    have y3 : v12.cell? ⟨w2.heap.size, 3, none⟩ = some (.slice rb H.length rd) := bcell BR.out rfl
    have h13 := p_depth sn nx (some ⟨rg, 0, none⟩) rb R.length H.length rc rd v12
    go_wp2_with (go_at_call 19; fail)
    refine h13.mono ?_
    rintro e v13 ⟨rfl, hb13⟩
    have HB_ : Hid (Below w.heap.size w v13) := HB.out.trans (Below.mono hb13 (Below.size HB.out))
    have HQ_ : Hid (Us v13 es ms ga cg ha ch) := us_below HQ.out hb13
    have BQ_ : Hid (v13.heap[w1.heap.size]? = some (.cells #[.string sn, .int .i64 nx, .slice ga es.length cg, .slice ha ms.length ch] 27 (0, 0))) := bstay BQ.out hb13 (Array.getElem?_eq_some_iff.1 BQ.out).1
    have HR_ : Hid (Rq v13 R H (some ⟨rg, 0, none⟩) rb) := HR.out.below hb13
    have BR_ : Hid (v13.heap[w2.heap.size]? = some (.cells #[.string sn, .int .i64 nx, .slice (some ⟨rg, 0, none⟩) R.length rc, .slice rb H.length rd] 27 (0, 0))) := bstay BR.out hb13 (Array.getElem?_eq_some_iff.1 BR.out).1
    have HD_ : Hid (Rq v13 es H da db) := HD.out.below hb13
    have BD_ : Hid (v13.heap[w4.heap.size]? = some (.cells #[.string sn, .int .i64 nx, .slice da es.length dc, .slice db H.length dd] 27 (0, 0))) := bstay BD.out hb13 (Array.getElem?_eq_some_iff.1 BD.out).1
    have HP_ : Hid (Us v13 pe pm pa pc pb pd) := us_below HP.out hb13
    have BP_ : Hid (v13.heap[v2.heap.size]? = some (.cells #[.string pn, .int .i64 pnx, .slice pa pe.length pc, .slice pb pm.length pd] 27 (0, 0))) := bstay BP.out hb13 (Array.getElem?_eq_some_iff.1 BP.out).1
    have HS_ : Hid (Rq v13 SE pm (some ⟨sg, 0, none⟩) sb) := HS.out.below hb13
    have BS_ : Hid (v13.heap[v3.heap.size]? = some (.cells #[.string pn, .int .i64 SN, .slice (some ⟨sg, 0, none⟩) SE.length sc, .slice sb pm.length sd] 27 (0, 0))) := bstay BS.out hb13 (Array.getElem?_eq_some_iff.1 BS.out).1
    clear HB HQ BQ HR BR HD BD HP BP HS BS
    have HB := HB_
    have HQ := HQ_
    have BQ := BQ_
    have HR := HR_
    have BR := BR_
    have HD := HD_
    have BD := BD_
    have HP := HP_
    have BP := BP_
    have HS := HS_
    have BS := BS_
    clear HB_ HQ_ BQ_ HR_ BR_ HD_ BD_ HP_ BP_ HS_ BS_
    clear h13 hb13 y0 y1 y2 y3
    have x0 : v13.cell? ⟨w1.heap.size, 0, none⟩ = some (.string sn) := bcell BQ.out rfl
    have x1 : v13.cell? ⟨w1.heap.size, 1, none⟩ = some (.int .i64 nx) := bcell BQ.out rfl
    have x2 : v13.cell? ⟨w1.heap.size, 2, none⟩ = some (.slice ga es.length cg) := bcell BQ.out rfl
    have x3 : v13.cell? ⟨w1.heap.size, 3, none⟩ = some (.slice ha ms.length ch) := bcell BQ.out rfl
    have h14 := p_depth sn nx ga ha es.length ms.length cg ch v13
    go_wp2_with (go_at_call 19; fail)
    refine h14.mono ?_
    rintro e v14 ⟨rfl, hb14⟩
    have HB_ : Hid (Below w.heap.size w v14) := HB.out.trans (Below.mono hb14 (Below.size HB.out))
    have HQ_ : Hid (Us v14 es ms ga cg ha ch) := us_below HQ.out hb14
    have BQ_ : Hid (v14.heap[w1.heap.size]? = some (.cells #[.string sn, .int .i64 nx, .slice ga es.length cg, .slice ha ms.length ch] 27 (0, 0))) := bstay BQ.out hb14 (Array.getElem?_eq_some_iff.1 BQ.out).1
    have HR_ : Hid (Rq v14 R H (some ⟨rg, 0, none⟩) rb) := HR.out.below hb14
    have BR_ : Hid (v14.heap[w2.heap.size]? = some (.cells #[.string sn, .int .i64 nx, .slice (some ⟨rg, 0, none⟩) R.length rc, .slice rb H.length rd] 27 (0, 0))) := bstay BR.out hb14 (Array.getElem?_eq_some_iff.1 BR.out).1
    have HD_ : Hid (Rq v14 es H da db) := HD.out.below hb14
    have BD_ : Hid (v14.heap[w4.heap.size]? = some (.cells #[.string sn, .int .i64 nx, .slice da es.length dc, .slice db H.length dd] 27 (0, 0))) := bstay BD.out hb14 (Array.getElem?_eq_some_iff.1 BD.out).1
    have HP_ : Hid (Us v14 pe pm pa pc pb pd) := us_below HP.out hb14
    have BP_ : Hid (v14.heap[v2.heap.size]? = some (.cells #[.string pn, .int .i64 pnx, .slice pa pe.length pc, .slice pb pm.length pd] 27 (0, 0))) := bstay BP.out hb14 (Array.getElem?_eq_some_iff.1 BP.out).1
    have HS_ : Hid (Rq v14 SE pm (some ⟨sg, 0, none⟩) sb) := HS.out.below hb14
    have BS_ : Hid (v14.heap[v3.heap.size]? = some (.cells #[.string pn, .int .i64 SN, .slice (some ⟨sg, 0, none⟩) SE.length sc, .slice sb pm.length sd] 27 (0, 0))) := bstay BS.out hb14 (Array.getElem?_eq_some_iff.1 BS.out).1
    clear HB HQ BQ HR BR HD BD HP BP HS BS
    have HB := HB_
    have HQ := HQ_
    have BQ := BQ_
    have HR := HR_
    have BR := BR_
    have HD := HD_
    have BD := BD_
    have HP := HP_
    have BP := BP_
    have HS := HS_
    have BS := BS_
    clear HB_ HQ_ BQ_ HR_ BR_ HD_ BD_ HP_ BP_ HS_ BS_
    clear h14 hb14 x0 x1 x2 x3
    have u0 : v14.cell? ⟨w4.heap.size, 0, none⟩ = some (.string sn) := bcell BD.out rfl
    have u1 : v14.cell? ⟨w4.heap.size, 1, none⟩ = some (.int .i64 nx) := bcell BD.out rfl
    have u2 : v14.cell? ⟨w4.heap.size, 2, none⟩ = some (.slice da es.length dc) := bcell BD.out rfl
    have u3 : v14.cell? ⟨w4.heap.size, 3, none⟩ = some (.slice db H.length dd) := bcell BD.out rfl
    have h15 := p_depth sn nx da db es.length H.length dc dd v14
    go_wp2_with (go_at_call 19; fail)
    refine h15.mono ?_
    rintro e v15 ⟨rfl, hb15⟩
    have HB_ : Hid (Below w.heap.size w v15) := HB.out.trans (Below.mono hb15 (Below.size HB.out))
    have HQ_ : Hid (Us v15 es ms ga cg ha ch) := us_below HQ.out hb15
    have BQ_ : Hid (v15.heap[w1.heap.size]? = some (.cells #[.string sn, .int .i64 nx, .slice ga es.length cg, .slice ha ms.length ch] 27 (0, 0))) := bstay BQ.out hb15 (Array.getElem?_eq_some_iff.1 BQ.out).1
    have HR_ : Hid (Rq v15 R H (some ⟨rg, 0, none⟩) rb) := HR.out.below hb15
    have BR_ : Hid (v15.heap[w2.heap.size]? = some (.cells #[.string sn, .int .i64 nx, .slice (some ⟨rg, 0, none⟩) R.length rc, .slice rb H.length rd] 27 (0, 0))) := bstay BR.out hb15 (Array.getElem?_eq_some_iff.1 BR.out).1
    have HD_ : Hid (Rq v15 es H da db) := HD.out.below hb15
    have BD_ : Hid (v15.heap[w4.heap.size]? = some (.cells #[.string sn, .int .i64 nx, .slice da es.length dc, .slice db H.length dd] 27 (0, 0))) := bstay BD.out hb15 (Array.getElem?_eq_some_iff.1 BD.out).1
    have HP_ : Hid (Us v15 pe pm pa pc pb pd) := us_below HP.out hb15
    have BP_ : Hid (v15.heap[v2.heap.size]? = some (.cells #[.string pn, .int .i64 pnx, .slice pa pe.length pc, .slice pb pm.length pd] 27 (0, 0))) := bstay BP.out hb15 (Array.getElem?_eq_some_iff.1 BP.out).1
    have HS_ : Hid (Rq v15 SE pm (some ⟨sg, 0, none⟩) sb) := HS.out.below hb15
    have BS_ : Hid (v15.heap[v3.heap.size]? = some (.cells #[.string pn, .int .i64 SN, .slice (some ⟨sg, 0, none⟩) SE.length sc, .slice sb pm.length sd] 27 (0, 0))) := bstay BS.out hb15 (Array.getElem?_eq_some_iff.1 BS.out).1
    clear HB HQ BQ HR BR HD BD HP BP HS BS
    have HB := HB_
    have HQ := HQ_
    have BQ := BQ_
    have HR := HR_
    have BR := BR_
    have HD := HD_
    have BD := BD_
    have HP := HP_
    have BP := BP_
    have HS := HS_
    have BS := BS_
    clear HB_ HQ_ BQ_ HR_ BR_ HD_ BD_ HP_ BP_ HS_ BS_
    clear h15 hb15 u0 u1 u2 u3
    go_wp2
    cases sf
    case' true =>
      obtain ⟨p1, p2, p3⟩ := HPF.out rfl
      have hle : SE.length = pe.length + 1 := by rw [p1]; simp
      have hpl := HSMP.out.tt
      have hwr : IntKind.i64.wrap ((pe.length : Int) + 1) = (SE.length : Int) := by rw [IntKind.wrap_i64]; omega
      have HSO : Hid (okB pn SN SE pm = true) := by rw [p1, p2]; exact p3
      have hsl : SE[pe.length]? = some ⟨pnx, qx, qk, qb, false⟩ := by rw [p1]; simp
      have HSL : Hid (SE[pe.length]? = some ⟨pnx, qx, qk, qb, false⟩) := hsl
      have hlt : pe.length < SE.length := by omega
      clear p1 p2 p3 hle hpl hsl
      have x0 : ∀ N : qi.Cls v15, N.x.cell? ⟨v3.heap.size, 0, none⟩ = some (.string pn) := fun N => bcell (bstay BS.out N.h (Array.getElem?_eq_some_iff.1 BS.out).1) rfl
      have x1 : ∀ N : qi.Cls v15, N.x.cell? ⟨v3.heap.size, 1, none⟩ = some (.int .i64 SN) := fun N => bcell (bstay BS.out N.h (Array.getElem?_eq_some_iff.1 BS.out).1) rfl
      have x2 : ∀ N : qi.Cls v15, N.x.cell? ⟨v3.heap.size, 2, none⟩ = some (.slice (some ⟨sg, 0, none⟩) SE.length sc) := fun N => bcell (bstay BS.out N.h (Array.getElem?_eq_some_iff.1 BS.out).1) rfl
      have x3 : ∀ N : qi.Cls v15, N.x.cell? ⟨v3.heap.size, 3, none⟩ = some (.slice sb pm.length sd) := fun N => bcell (bstay BS.out N.h (Array.getElem?_eq_some_iff.1 BS.out).1) rfl
      have y0 : ∀ N : qi.Cls v15, N.x.cell? ⟨v2.heap.size, 0, none⟩ = some (.string pn) := fun N => bcell (bstay BP.out N.h (Array.getElem?_eq_some_iff.1 BP.out).1) rfl
      have y1 : ∀ N : qi.Cls v15, N.x.cell? ⟨v2.heap.size, 1, none⟩ = some (.int .i64 pnx) := fun N => bcell (bstay BP.out N.h (Array.getElem?_eq_some_iff.1 BP.out).1) rfl
      have y2 : ∀ N : qi.Cls v15, N.x.cell? ⟨v2.heap.size, 2, none⟩ = some (.slice pa pe.length pc) := fun N => bcell (bstay BP.out N.h (Array.getElem?_eq_some_iff.1 BP.out).1) rfl
      have y3 : ∀ N : qi.Cls v15, N.x.cell? ⟨v2.heap.size, 3, none⟩ = some (.slice pb pm.length pd) := fun N => bcell (bstay BP.out N.h (Array.getElem?_eq_some_iff.1 BP.out).1) rfl
      have k1' : ∀ N : qi.Cls v15, Calls Try.prog 11 #[.agg #[.string pn, .int .i64 SN, .slice (some ⟨sg, 0, none⟩) SE.length sc, .slice sb pm.length sd]] N.x fun e w' => e = .returned (.bool true) ∧ Below N.x.heap.size N.x w' := fun N => by have h9 := p_ok (nx := SN) (cg := sc) (ch := sd) (HS.out.below N.h) HSMS.out (by omega); rwa [HSO.out] at h9
      have k1 : ∀ N : qi.Cls v15, Calls Try.prog 11 #[.agg #[.string pn, .int .i64 SN, .slice (some ⟨sg, 0, none⟩) SE.length sc, .slice sb pm.length sd]] N.x fun e w' => e = .returned (.bool true) ∧ qi.T v15 w' := fun N => (k1' N).mono fun e w' ⟨h1, h2⟩ => ⟨h1, Below.trans N.h (Below.mono h2 (Below.size N.h))⟩
      clear k1'
      have q0 : ∀ N : qi.Cls v15, N.x.cell? ⟨sg, pe.length * 5, none⟩ = some (.int .i64 pnx) := fun N => (Rq.at (HS.out.below N.h) HSL.out).1
      refine qi.region_in v15 (qi.T.refl v15) (by kernel_rfl) (by kernel_rfl) ?_
      repeat (go_big_quiet_step (first | (go_at_call 11; with_reducible refine (k1 _).mono ?_; rintro e wx ⟨rfl, hTx⟩; exact ⟨rfl, ⟨wx, hTx⟩, rfl⟩)))
      refine wpQuiet_nil ?_
      rintro _ ⟨N, rfl⟩
      have hN := N.h
      generalize N.x = v16 at hN ⊢
      clear N k1 q0 hwr hlt HSO HSL x0 x1 x2 x3 y0 y1 y2 y3
      have hbN : Below v15.heap.size v15 v16 := hN
      have HB_ : Hid (Below w.heap.size w v16) := HB.out.trans (Below.mono hbN (Below.size HB.out))
      have HQ_ : Hid (Us v16 es ms ga cg ha ch) := us_below HQ.out hbN
      have BQ_ : Hid (v16.heap[w1.heap.size]? = some (.cells #[.string sn, .int .i64 nx, .slice ga es.length cg, .slice ha ms.length ch] 27 (0, 0))) := bstay BQ.out hbN (Array.getElem?_eq_some_iff.1 BQ.out).1
      have HR_ : Hid (Rq v16 R H (some ⟨rg, 0, none⟩) rb) := HR.out.below hbN
      have BR_ : Hid (v16.heap[w2.heap.size]? = some (.cells #[.string sn, .int .i64 nx, .slice (some ⟨rg, 0, none⟩) R.length rc, .slice rb H.length rd] 27 (0, 0))) := bstay BR.out hbN (Array.getElem?_eq_some_iff.1 BR.out).1
      have HD_ : Hid (Rq v16 es H da db) := HD.out.below hbN
      have BD_ : Hid (v16.heap[w4.heap.size]? = some (.cells #[.string sn, .int .i64 nx, .slice da es.length dc, .slice db H.length dd] 27 (0, 0))) := bstay BD.out hbN (Array.getElem?_eq_some_iff.1 BD.out).1
      have HP_ : Hid (Us v16 pe pm pa pc pb pd) := us_below HP.out hbN
      have BP_ : Hid (v16.heap[v2.heap.size]? = some (.cells #[.string pn, .int .i64 pnx, .slice pa pe.length pc, .slice pb pm.length pd] 27 (0, 0))) := bstay BP.out hbN (Array.getElem?_eq_some_iff.1 BP.out).1
      have HS_ : Hid (Rq v16 SE pm (some ⟨sg, 0, none⟩) sb) := HS.out.below hbN
      have BS_ : Hid (v16.heap[v3.heap.size]? = some (.cells #[.string pn, .int .i64 SN, .slice (some ⟨sg, 0, none⟩) SE.length sc, .slice sb pm.length sd] 27 (0, 0))) := bstay BS.out hbN (Array.getElem?_eq_some_iff.1 BS.out).1
      clear HB HQ BQ HR BR HD BD HP BP HS BS
      have HB := HB_
      have HQ := HQ_
      have BQ := BQ_
      have HR := HR_
      have BR := BR_
      have HD := HD_
      have BD := BD_
      have HP := HP_
      have BP := BP_
      have HS := HS_
      have BS := BS_
      clear HB_ HQ_ BQ_ HR_ BR_ HD_ BD_ HP_ BP_ HS_ BS_
      clear hN hbN
    case' false =>
      refine qi.region_in v15 (qi.T.refl v15) (by kernel_rfl) (by kernel_rfl) ?_
      repeat (go_big_quiet_step (fail))
      refine wpQuiet_nil ?_
      rintro _ ⟨N, rfl⟩
      have hN := N.h
      generalize N.x = v16 at hN ⊢
      clear N 
      have hbN : Below v15.heap.size v15 v16 := hN
      have HB_ : Hid (Below w.heap.size w v16) := HB.out.trans (Below.mono hbN (Below.size HB.out))
      have HQ_ : Hid (Us v16 es ms ga cg ha ch) := us_below HQ.out hbN
      have BQ_ : Hid (v16.heap[w1.heap.size]? = some (.cells #[.string sn, .int .i64 nx, .slice ga es.length cg, .slice ha ms.length ch] 27 (0, 0))) := bstay BQ.out hbN (Array.getElem?_eq_some_iff.1 BQ.out).1
      have HR_ : Hid (Rq v16 R H (some ⟨rg, 0, none⟩) rb) := HR.out.below hbN
      have BR_ : Hid (v16.heap[w2.heap.size]? = some (.cells #[.string sn, .int .i64 nx, .slice (some ⟨rg, 0, none⟩) R.length rc, .slice rb H.length rd] 27 (0, 0))) := bstay BR.out hbN (Array.getElem?_eq_some_iff.1 BR.out).1
      have HD_ : Hid (Rq v16 es H da db) := HD.out.below hbN
      have BD_ : Hid (v16.heap[w4.heap.size]? = some (.cells #[.string sn, .int .i64 nx, .slice da es.length dc, .slice db H.length dd] 27 (0, 0))) := bstay BD.out hbN (Array.getElem?_eq_some_iff.1 BD.out).1
      have HP_ : Hid (Us v16 pe pm pa pc pb pd) := us_below HP.out hbN
      have BP_ : Hid (v16.heap[v2.heap.size]? = some (.cells #[.string pn, .int .i64 pnx, .slice pa pe.length pc, .slice pb pm.length pd] 27 (0, 0))) := bstay BP.out hbN (Array.getElem?_eq_some_iff.1 BP.out).1
      have HS_ : Hid (Rq v16 SE pm (some ⟨sg, 0, none⟩) sb) := HS.out.below hbN
      have BS_ : Hid (v16.heap[v3.heap.size]? = some (.cells #[.string pn, .int .i64 SN, .slice (some ⟨sg, 0, none⟩) SE.length sc, .slice sb pm.length sd] 27 (0, 0))) := bstay BS.out hbN (Array.getElem?_eq_some_iff.1 BS.out).1
      clear HB HQ BQ HR BR HD BD HP BP HS BS
      have HB := HB_
      have HQ := HQ_
      have BQ := BQ_
      have HR := HR_
      have BR := BR_
      have HD := HD_
      have BD := BD_
      have HP := HP_
      have BP := BP_
      have HS := HS_
      have BS := BS_
      clear HB_ HQ_ BQ_ HR_ BR_ HD_ BD_ HP_ BP_ HS_ BS_
      clear hN hbN
    all_goals
      clear BS HS BP HP HPF HSMP HSMS
      have x0 : v16.cell? ⟨w1.heap.size, 0, none⟩ = some (.string sn) := bcell BQ.out rfl
      have x1 : v16.cell? ⟨w1.heap.size, 1, none⟩ = some (.int .i64 nx) := bcell BQ.out rfl
      have x2 : v16.cell? ⟨w1.heap.size, 2, none⟩ = some (.slice ga es.length cg) := bcell BQ.out rfl
      have x3 : v16.cell? ⟨w1.heap.size, 3, none⟩ = some (.slice ha ms.length ch) := bcell BQ.out rfl
      have h16 := s_ok (nx := nx) (cg := cg) (ch := ch) (us_rq HQ.out) HSM.out (by omega)
      rw [HOB.out] at h16
      go_wp2_with (go_at_call 12; fail)
      refine h16.mono ?_
      rintro e v17 ⟨rfl, hb16⟩
      have HB_ : Hid (Below w.heap.size w v17) := HB.out.trans (Below.mono hb16 (Below.size HB.out))
      have HQ_ : Hid (Us v17 es ms ga cg ha ch) := us_below HQ.out hb16
      have BQ_ : Hid (v17.heap[w1.heap.size]? = some (.cells #[.string sn, .int .i64 nx, .slice ga es.length cg, .slice ha ms.length ch] 27 (0, 0))) := bstay BQ.out hb16 (Array.getElem?_eq_some_iff.1 BQ.out).1
      have HR_ : Hid (Rq v17 R H (some ⟨rg, 0, none⟩) rb) := HR.out.below hb16
      have BR_ : Hid (v17.heap[w2.heap.size]? = some (.cells #[.string sn, .int .i64 nx, .slice (some ⟨rg, 0, none⟩) R.length rc, .slice rb H.length rd] 27 (0, 0))) := bstay BR.out hb16 (Array.getElem?_eq_some_iff.1 BR.out).1
      have HD_ : Hid (Rq v17 es H da db) := HD.out.below hb16
      have BD_ : Hid (v17.heap[w4.heap.size]? = some (.cells #[.string sn, .int .i64 nx, .slice da es.length dc, .slice db H.length dd] 27 (0, 0))) := bstay BD.out hb16 (Array.getElem?_eq_some_iff.1 BD.out).1
      clear HB HQ BQ HR BR HD BD
      have HB := HB_
      have HQ := HQ_
      have BQ := BQ_
      have HR := HR_
      have BR := BR_
      have HD := HD_
      have BD := BD_
      clear HB_ HQ_ BQ_ HR_ BR_ HD_ BD_
      clear h16 hb16 x0 x1 x2 x3
      cases ob
      case' false =>
        have x0 : v17.cell? ⟨w2.heap.size, 0, none⟩ = some (.string sn) := bcell BR.out rfl
        have x1 : v17.cell? ⟨w2.heap.size, 1, none⟩ = some (.int .i64 nx) := bcell BR.out rfl
        have x2 : v17.cell? ⟨w2.heap.size, 2, none⟩ = some (.slice (some ⟨rg, 0, none⟩) R.length rc) := bcell BR.out rfl
        have x3 : v17.cell? ⟨w2.heap.size, 3, none⟩ = some (.slice rb H.length rd) := bcell BR.out rfl
        have y0 : v17.cell? ⟨w1.heap.size, 0, none⟩ = some (.string sn) := bcell BQ.out rfl
        have y1 : v17.cell? ⟨w1.heap.size, 1, none⟩ = some (.int .i64 nx) := bcell BQ.out rfl
        have y2 : v17.cell? ⟨w1.heap.size, 2, none⟩ = some (.slice ga es.length cg) := bcell BQ.out rfl
        have y3 : v17.cell? ⟨w1.heap.size, 3, none⟩ = some (.slice ha ms.length ch) := bcell BQ.out rfl
        obtain ⟨z1, z2, z3⟩ := HDR.out.2.2.2 HOB.out
        have h17 : Calls Try.prog 10 #[.agg #[.string sn, .int .i64 nx, .slice (some ⟨rg, 0, none⟩) R.length rc, .slice rb H.length rd], .agg #[.string sn, .int .i64 nx, .slice ga es.length cg, .slice ha ms.length ch]] v17 fun e w' => e = .returned (.bool true) ∧ Below v17.heap.size v17 w' := by
          have h9 := HR.out
          rw [z2, z3] at h9 ⊢
          exact p_same h9 (us_rq HQ.out) HSM.out (by omega)
        have hk0 : (k : Int) = 0 := by omega
        clear z1 z2 z3
        go_wp2_with (go_at_call 10; fail)
        refine h17.mono ?_
        rintro e v18 ⟨rfl, hb18⟩
        have HBE : Hid (Below w.heap.size w v18) := HB.out.trans (Below.mono hb18 (Below.size HB.out))
        clear h17 hb18 x0 x1 x2 x3 y0 y1 y2 y3
        go_wp2
        go_ret
        exact ⟨rfl, HBE.out⟩
      case' true =>
        obtain ⟨z1, z2⟩ := HDR.out.2.2.1 HOB.out
        have z3 := HDR.out.1
        have z4 := HDR.out.2.1
        have z5 := HSM.out.tt
        have hw1 : IntKind.i64.wrap ((es.length : Int) + (k : Int)) = (R.length : Int) := by rw [IntKind.wrap_i64]; omega
        have hw2 : IntKind.i64.wrap ((ms.length : Int) - (k : Int)) = (H.length : Int) := by rw [IntKind.wrap_i64]; omega
        have h17 := p_ok (nx := nx) (cg := rc) (ch := rd) HR.out HSMR.out (by omega)
        rw [z1] at h17
        have HOD : Hid (okB sn nx es H = true) := z2
        clear z1 z2 z3 z4 z5
        have x0 : v17.cell? ⟨w2.heap.size, 0, none⟩ = some (.string sn) := bcell BR.out rfl
        have x1 : v17.cell? ⟨w2.heap.size, 1, none⟩ = some (.int .i64 nx) := bcell BR.out rfl
        have x2 : v17.cell? ⟨w2.heap.size, 2, none⟩ = some (.slice (some ⟨rg, 0, none⟩) R.length rc) := bcell BR.out rfl
        have x3 : v17.cell? ⟨w2.heap.size, 3, none⟩ = some (.slice rb H.length rd) := bcell BR.out rfl
        go_wp2_with (go_at_call 11; fail)
        refine h17.mono ?_
        rintro e v18 ⟨rfl, hb17⟩
        have HB_ : Hid (Below w.heap.size w v18) := HB.out.trans (Below.mono hb17 (Below.size HB.out))
        have HQ_ : Hid (Us v18 es ms ga cg ha ch) := us_below HQ.out hb17
        have BQ_ : Hid (v18.heap[w1.heap.size]? = some (.cells #[.string sn, .int .i64 nx, .slice ga es.length cg, .slice ha ms.length ch] 27 (0, 0))) := bstay BQ.out hb17 (Array.getElem?_eq_some_iff.1 BQ.out).1
        have HR_ : Hid (Rq v18 R H (some ⟨rg, 0, none⟩) rb) := HR.out.below hb17
        have BR_ : Hid (v18.heap[w2.heap.size]? = some (.cells #[.string sn, .int .i64 nx, .slice (some ⟨rg, 0, none⟩) R.length rc, .slice rb H.length rd] 27 (0, 0))) := bstay BR.out hb17 (Array.getElem?_eq_some_iff.1 BR.out).1
        have HD_ : Hid (Rq v18 es H da db) := HD.out.below hb17
        have BD_ : Hid (v18.heap[w4.heap.size]? = some (.cells #[.string sn, .int .i64 nx, .slice da es.length dc, .slice db H.length dd] 27 (0, 0))) := bstay BD.out hb17 (Array.getElem?_eq_some_iff.1 BD.out).1
        clear HB HQ BQ HR BR HD BD
        have HB := HB_
        have HQ := HQ_
        have BQ := BQ_
        have HR := HR_
        have BR := BR_
        have HD := HD_
        have BD := BD_
        clear HB_ HQ_ BQ_ HR_ BR_ HD_ BD_
        clear h17 hb17 x0 x1 x2 x3
        have x0 : v18.cell? ⟨w4.heap.size, 0, none⟩ = some (.string sn) := bcell BD.out rfl
        have x1 : v18.cell? ⟨w4.heap.size, 1, none⟩ = some (.int .i64 nx) := bcell BD.out rfl
        have x2 : v18.cell? ⟨w4.heap.size, 2, none⟩ = some (.slice da es.length dc) := bcell BD.out rfl
        have x3 : v18.cell? ⟨w4.heap.size, 3, none⟩ = some (.slice db H.length dd) := bcell BD.out rfl
        have h18 := p_ok (nx := nx) (cg := dc) (ch := dd) HD.out HSMD.out (by omega)
        rw [HOD.out] at h18
        go_wp2_with (go_at_call 11; fail)
        refine h18.mono ?_
        rintro e v19 ⟨rfl, hb18⟩
        have HB_ : Hid (Below w.heap.size w v19) := HB.out.trans (Below.mono hb18 (Below.size HB.out))
        have HQ_ : Hid (Us v19 es ms ga cg ha ch) := us_below HQ.out hb18
        have BQ_ : Hid (v19.heap[w1.heap.size]? = some (.cells #[.string sn, .int .i64 nx, .slice ga es.length cg, .slice ha ms.length ch] 27 (0, 0))) := bstay BQ.out hb18 (Array.getElem?_eq_some_iff.1 BQ.out).1
        have HR_ : Hid (Rq v19 R H (some ⟨rg, 0, none⟩) rb) := HR.out.below hb18
        have BR_ : Hid (v19.heap[w2.heap.size]? = some (.cells #[.string sn, .int .i64 nx, .slice (some ⟨rg, 0, none⟩) R.length rc, .slice rb H.length rd] 27 (0, 0))) := bstay BR.out hb18 (Array.getElem?_eq_some_iff.1 BR.out).1
        have HD_ : Hid (Rq v19 es H da db) := HD.out.below hb18
        have BD_ : Hid (v19.heap[w4.heap.size]? = some (.cells #[.string sn, .int .i64 nx, .slice da es.length dc, .slice db H.length dd] 27 (0, 0))) := bstay BD.out hb18 (Array.getElem?_eq_some_iff.1 BD.out).1
        clear HB HQ BQ HR BR HD BD
        have HB := HB_
        have HQ := HQ_
        have BQ := BQ_
        have HR := HR_
        have BR := BR_
        have HD := HD_
        have BD := BD_
        clear HB_ HQ_ BQ_ HR_ BR_ HD_ BD_
        clear h18 hb18 x0 x1 x2 x3
        go_wp2
        go_ret
        exact ⟨rfl, HB.out⟩
end Go.Proofs.Ytnlcmheahihlpaa.qwk
