/- FnRoute: the contracts in the words of its walk: routes by their lists, wherever these lie. -/
import Derived.Test.YtnooibeohdfcmaaGreatDoorRw11
import Derived.Deep.QuietTactic
import Derived.BigQuiet
import Derived.Test.YtnooibeohdfcmaaGreatDoorRw16
import Derived.Test.YtnooibeohdfcmaaGreatDoorRw02
import Derived.Test.YtnooibeohdfcmaaGreatDoorRw03
import Derived.Test.YtnooibeohdfcmaaGreatDoorDelBind
import Derived.Test.YtnooibeohdfcmaaGreatDoorRw10
import Derived.Test.YtnooibeohdfcmaaGreatDoorRw18

/- Two lists of the same texts held beside each other: the laws' sameTexts. -/
namespace Go.Proofs.YtnooibeohdfcmaaGreatDoor.stx
open Go.ChangeShapes Go.WideShapes Go.ChangeAt Go.RowKit Go.Proofs.YtnooibeohdfcmaaGreatDoor.fl Go.Proofs.YtnooibeohdfcmaaGreatDoor.ptt
set_option linter.unusedVariables false

theorem bdrewN {B : Nat} {a w : World} (h : Below B a w) (n : Nat) : Below B a (w.drewN n) := ⟨h.os, h.tape, h.output, h.size, h.block⟩
set_option maxRecDepth 100000 in
set_option maxHeartbeats 2000000 in
theorem same_texts (l : List ByteArray) (a1 a2 : Option Addr) (c1 c2 : Nat) (w : World) (hl : l.length ≤ 1048576) (hA1 : Row cS 1 w w.heap.size a1 l) (hA2 : Row cS 1 w w.heap.size a2 l) :
    Calls Tryz.prog 14 #[.slice a1 l.length c1, .slice a2 l.length c2] w fun e w' => e = .returned (.bool true) ∧ Below w.heap.size w w' := by
  have H1 : Hid (Row cS 1 w w.heap.size a1 l) := hA1
  have H2 : Hid (Row cS 1 w w.heap.size a2 l) := hA2
  clear hA1 hA2
  go_enter Tryz.func14, Tryz.ntmps14
  go_wp2
  go_loopw [5] (fun x wr => ∃ k : Nat, k ≤ l.length ∧ x = .int .i64 k ∧ Hid (Below w.heap.size w wr)) (fun x _ => l.length - (intOf x).toNat)
  case atStart => exact ⟨0, Nat.zero_le _, rfl, by first | exact Below.refl _ _ | exact (Below.refl _ _).drew⟩
  case round =>
    obtain ⟨k, hk, rfl, hbr⟩ := hrel
    by_cases hkl : k < l.length
    · have i2 : (k : Int) < (l.length : Int) := by omega
      have HG : Hid (l[k]? = some l[k]) := List.getElem?_eq_getElem hkl
      obtain ⟨s, he⟩ : ∃ e, l[k] = e := ⟨_, rfl⟩
      rw [he] at HG
      obtain ⟨g1, o1, hqa, hlt1, hc1⟩ := (H1.out.inn hbr.out).resolve_left (by rintro rfl; simp at hkl)
      obtain ⟨g2, o2, hqb, hlt2, hc2⟩ := (H2.out.inn hbr.out).resolve_left (by rintro rfl; simp at hkl)
      have p0 := hc1 k _ HG.out 0 _ rfl
      have q0 := hc2 k _ HG.out 0 _ rfl
      rw [Nat.add_zero, Nat.mul_one] at p0 q0
      have HBR : Hid (Below w.heap.size w wr) := hbr
      clear he hc1 hc2 hlt1 hlt2 hbr
      go_wp2
      go_quiet (fail)
      have HBN : Hid (Below w.heap.size w (wr.drewN nq)) := bdrewN HBR.out nq
      go_wp2
      try rw [← hqa]
      try rw [← hqb]
      go_roundw
      case rel => exact ⟨k + 1, by omega, by go_num, HBN⟩
      case measure => simp [intOf]; omega
    · obtain rfl : k = l.length := by omega
      have i2 : ¬ (l.length : Int) < (l.length : Int) := by omega
      have HBF : Hid (Below w.heap.size w wr) := hbr
      clear hbr
      go_wp2
      go_ret
      exact ⟨rfl, HBF.out⟩
end Go.Proofs.YtnooibeohdfcmaaGreatDoor.stx

/- FnRoute: what its law wants of the answers: lists ascend, what is made or put is right, what is gone is gone, and a message goes by the key that it was bound with. -/
namespace Go.Proofs.YtnooibeohdfcmaaGreatDoor.frp
open Go.Proofs.YtnooibeohdfcmaaGreatDoor.rc Go.Proofs.YtnooibeohdfcmaaGreatDoor.rr Go.Proofs.YtnooibeohdfcmaaGreatDoor.rf Go.Proofs.YtnooibeohdfcmaaGreatDoor.rs Go.Proofs.YtnooibeohdfcmaaGreatDoor.ro Go.Proofs.YtnooibeohdfcmaaGreatDoor.rtp Go.Proofs.YtnooibeohdfcmaaGreatDoor.rta
set_option linter.unusedVariables false

open Go.Proofs.YtnooibeohdfcmaaGreatDoor.tp in
theorem nx_hash_up (k : List ByteArray) (row : Nat → Bool) (i : Nat) (h : row i = true) : ∀ d, nx hash k row (i + d) = true
  | 0 => by
    cases i with
    | zero => simp [nx_zero, h]
    | succ i => rw [Nat.add_zero, nx_hash, h]; rfl
  | d + 1 => by rw [← Nat.add_assoc, nx_hash, nx_hash_up k row i h d, Bool.or_true]
open Go.Proofs.YtnooibeohdfcmaaGreatDoor.tp in
theorem rows_self (k : List ByteArray) : ∀ i, i ≤ k.length → rows (k.take i) k row0 i = true
  | 0, _ => rfl
  | i + 1, hi => by
    have ih := rows_self k i (by omega)
    rw [rows_take k k row0 i (by omega)]
    by_cases hp : k.getD i ByteArray.empty = hash
    · rw [hp]
      exact nx_hash_up k _ i ih 1
    · rw [nx_other _ _ _ _ hp, ih]
      simp
open Go.Proofs.YtnooibeohdfcmaaGreatDoor.tp in
theorem fits_self (k : List ByteArray) : fits k k = true := by
  have := rows_self k k.length (Nat.le_refl _)
  rwa [List.take_length] at this
section
variable {es : List Ex} {bs : List Bi} {x key q : ByteArray}
theorem list_asc (es : List Ex) (bs : List Bi) (x key : ByteArray) : Asc (ansL es bs x key) := by
  unfold ansL
  split
  · split
    · exact List.pairwise_singleton _ _
    · split
      · exact List.Pairwise.nil
      · exact puts_asc _
  · exact List.Pairwise.nil
theorem asc_at {l : List ByteArray} (h : Asc l) {i : Nat} {a b : ByteArray} (ha : l[i]? = some a) (hb : l[i + 1]? = some b) : lt a b = true := by
  obtain ⟨h1, rfl⟩ := List.getElem?_eq_some_iff.1 ha
  obtain ⟨h2, rfl⟩ := List.getElem?_eq_some_iff.1 hb
  exact List.pairwise_iff_getElem.1 h i (i + 1) h1 h2 (by omega)
theorem list_len (es : List Ex) (bs : List Bi) (x key : ByteArray) : (ansL es bs x key).length ≤ bs.length + 1 := by
  unfold ansL
  split
  · split
    · simp
    · split
      · simp
      · have h1 := puts_len (qs (kindOf es x) x key bs)
        have h2 := qs_len (kindOf es x) x key bs
        omega
  · simp
open Classical in
theorem decl_all {n : ByteArray} {k : Int} (h : dp.retD es bs n k = true) : OkR (dp.ansD es bs n k) bs ∧ (dp.ansD es bs n k).length ≤ es.length + 1 := by
  unfold dp.ansD
  by_cases hf : dp.fitD es bs n k = true
  · rw [if_pos hf]
    unfold dp.fitD at hf
    exact ⟨(of_decide_eq_true hf).2.2, by rw [dp.insE_len]; exact Nat.le_refl _⟩
  · rw [if_neg hf]
    unfold dp.retD at h
    rcases of_decide_eq_true h with h1 | h1
    · exact absurd h1 hf
    · exact ⟨h1.1, by omega⟩
open Classical in
theorem bind_all {t : Bi} (h : bp.retB es bs t = true) : OkR es (bp.ansB es bs t) ∧ t ∈ bp.ansB es bs t := by
  unfold bp.ansB
  by_cases hf : bp.fitB es bs t = true
  · rw [if_pos hf]
    unfold bp.fitB at hf
    exact ⟨(of_decide_eq_true hf).2.2, List.mem_iff_getElem?.2 ⟨_, bp.insB_at bs t⟩⟩
  · rw [if_neg hf]
    unfold bp.retB at h
    rcases of_decide_eq_true h with h1 | h1
    · exact absurd h1 hf
    · obtain ⟨i, hi⟩ := h1.2
      exact ⟨h1.1, List.mem_iff_getElem?.2 ⟨i, hi⟩⟩
open Classical in
theorem bind_not {t : Bi} (h : bp.retB es bs t = false) : bp.ansB es bs t = bs := by
  unfold bp.ansB
  by_cases hf : bp.fitB es bs t = true
  · unfold bp.retB at h
    exact absurd (.inl hf) (of_decide_eq_false h)
  · rw [if_neg hf]
theorem up_pair {l : List Bi} (h : UpB l l.length) : l.Pairwise fun a b => before a b = true := by
  rw [List.pairwise_iff_getElem]
  intro i j hi hj hij
  obtain ⟨d, rfl⟩ : ∃ d, j = i + d + 1 := ⟨j - i - 1, by omega⟩
  exact bp.up_ltB h d i _ _ (List.getElem?_eq_getElem hi) (List.getElem?_eq_getElem hj)
theorem pair_up {l : List Bi} (h : l.Pairwise fun a b => before a b = true) : UpB l l.length := by
  intro i a b hi ha hb
  obtain ⟨h1, rfl⟩ := List.getElem?_eq_some_iff.1 ha
  obtain ⟨h2, rfl⟩ := List.getElem?_eq_some_iff.1 hb
  exact before_cmp.1 (List.pairwise_iff_getElem.1 h i (i + 1) h1 h2 (by omega))
theorem unbind_all (h : OkR es bs) (p : Bi → Bool) : OkR es (bs.filter p) := by
  refine ⟨h.el, Nat.le_trans (List.length_filter_le _ _) h.bl, h.eo, h.eu, fun i b hb => ?_, pair_up ((up_pair h.bu).filter _)⟩
  obtain ⟨j, hj⟩ := List.mem_iff_getElem?.1 ((List.mem_filter.1 (List.mem_of_getElem? hb)).1)
  exact h.bo j b hj
theorem gone {i : Nat} {b : Bi} (h : (bs.filter fun b => !db.mine q b)[i]? = some b) : (b.q.toList == q.toList) = false := by
  have h1 := (List.mem_filter.1 (List.mem_of_getElem? h)).2
  unfold db.mine at h1
  simpa using h1
theorem star (h : OkR es bs) (hm : (⟨x, key, q⟩ : Bi) ∈ bs) : rta.ansB es bs x key = true ∧ q ∈ ansL es bs x key := by
  obtain ⟨i, hi⟩ := List.mem_iff_getElem?.1 hm
  obtain ⟨h1, h2, h3⟩ := h.bo i _ hi
  have hk : ¬ kindOf es x < 0 := by simp only at h1; omega
  have hx : x ≠ ⟨#[]⟩ := by
    rintro rfl
    obtain ⟨t, a, ha, hn⟩ := (kind_there (fun i e he => by
      have h9 := h.eo i e he
      unfold exOk at h9
      simp at h9
      omega) _).1 h1
    have h9 := h.eo t a ha
    unfold exOk at h9
    rw [hn] at h9
    have h8 : nm.good ⟨#[]⟩ = false := by decide
    simp only at h9
    rw [h8] at h9
    simp at h9
  have hg : (okr es bs && ky.good key) = true := by rw [okr_iff.2 h]; simpa using h2
  obtain ⟨h4, h5⟩ := ans_some hg hx hk
  refine ⟨h5, ?_⟩
  rw [h4, puts_mem]
  unfold qs
  refine List.mem_map.2 ⟨⟨x, key, q⟩, List.mem_filter.2 ⟨hm, ?_⟩, rfl⟩
  have h6 := rti.kind_le (x := x) h
  have ht : tp.topic key key = true := by
    unfold tp.topic
    simp only at h2
    rw [h2, fits_self]
    rfl
  unfold hit goes
  simp only [ht, decide_true, Bool.true_and, Bool.and_true, Bool.or_eq_true, decide_eq_true_eq]
  omega
end
end Go.Proofs.YtnooibeohdfcmaaGreatDoor.frp

/- FnRoute: the contracts in the words of its walk: routes by their lists, wherever these lie. -/
namespace Go.Proofs.YtnooibeohdfcmaaGreatDoor.rtt
open Go.ChangeShapes Go.WideShapes Go.ChangeAt Go.RowKit Go.Proofs.YtnooibeohdfcmaaGreatDoor.fl Go.Proofs.YtnooibeohdfcmaaGreatDoor.dw Go.Proofs.YtnooibeohdfcmaaGreatDoor.rr Go.Proofs.YtnooibeohdfcmaaGreatDoor.ro Go.Proofs.YtnooibeohdfcmaaGreatDoor.su Go.Proofs.YtnooibeohdfcmaaGreatDoor.rwy Go.Proofs.YtnooibeohdfcmaaGreatDoor.dlr Go.Proofs.YtnooibeohdfcmaaGreatDoor.ptt Go.Proofs.YtnooibeohdfcmaaGreatDoor.ra Go.Proofs.YtnooibeohdfcmaaGreatDoor.rt
set_option linter.unusedVariables false

/-- what the program's functions want of routes -/
structure Rr (W : World) (es : List Ex) (bs : List Bi) (ea : Option Addr) (ec : Nat) (ba : Option Addr) (bc : Nat) : Prop where
  he : ∃ k, RE W k es ∧ apa.NQ ea ⟨k, 0, none⟩ es.length ec
  hb : ∃ k, RB W k bs ∧ apa.NQ ba ⟨k, 0, none⟩ bs.length bc
/-- what a comparison wants of routes -/
structure Rw (W : World) (es : List Ex) (bs : List Bi) (ea ba : Option Addr) : Prop where
  he : Row cE 2 W W.heap.size ea es
  hb : Row cB 3 W W.heap.size ba bs
/-- a list of texts -/
structure Ls (W : World) (L : List ByteArray) (la : Option Addr) : Prop where
  hr : Row cS 1 W W.heap.size la L
  ay : L = [] ∨ ∃ g, la = some ⟨g, 0, none⟩
section
variable {j : Nat} {m : Int} {W W' : World} {es : List Ex} {bs : List Bi} {ea ba ra rb : Option Addr} {ec bc rc rd : Nat} {L : List ByteArray} {la lb : Option Addr} {lc ld : Nat}
theorem Rr.below (h : Rr W es bs ea ec ba bc) (hb : Below W.heap.size W W') : Rr W' es bs ea ec ba bc := by
  obtain ⟨⟨k, h1, h2⟩, l, h3, h4⟩ := h
  exact ⟨⟨k, h1.below hb, h2⟩, l, h3.below hb, h4⟩
theorem us_below (h : Us W es bs ea ec ba bc) (hb : Below W.heap.size W W') : Us W' es bs ea ec ba bc := by
  obtain ⟨⟨k, h1, h2⟩, ⟨l, h3, h4⟩, h5, h6⟩ := h
  exact ⟨⟨k, h1.below hb, h2⟩, ⟨l, h3.below hb, h4⟩, h5, h6⟩
theorem Rw.below (h : Rw W es bs ea ba) (hb : Below W.heap.size W W') : Rw W' es bs ea ba := ⟨h.he.inn hb, h.hb.inn hb⟩
theorem Ls.below (h : Ls W L la) (hb : Below W.heap.size W W') : Ls W' L la := ⟨h.hr.inn hb, h.ay⟩
theorem us_rr (h : Us W es bs ea ec ba bc) : Rr W es bs ea ec ba bc := ⟨h.he, h.hb⟩
theorem se_row (h : SE W W.heap.size ea es) : Row cE 2 W W.heap.size ea es := by
  rcases h with h | ⟨b, off, h1, h2, h3⟩
  · exact .inl h
  · refine .inr ⟨b, off, h1, h2, fun i e he k v hk => ?_⟩
    obtain ⟨h4, h5⟩ := h3 i e he
    match k, hk with
    | 0, hk => cases hk; exact h4
    | 1, hk => cases hk; exact h5
theorem sb_row (h : SB W W.heap.size ba bs) : Row cB 3 W W.heap.size ba bs := by
  rcases h with h | ⟨b, off, h1, h2, h3⟩
  · exact .inl h
  · refine .inr ⟨b, off, h1, h2, fun i e he k v hk => ?_⟩
    obtain ⟨h4, h5, h6⟩ := h3 i e he
    match k, hk with
    | 0, hk => cases hk; exact h4
    | 1, hk => cases hk; exact h5
    | 2, hk => cases hk; exact h6
theorem Rr.rw (h : Rr W es bs ea ec ba bc) : Rw W es bs ea ba := by
  obtain ⟨⟨k, h1, h2⟩, l, h3, h4⟩ := h
  refine ⟨se_row ?_, sb_row ?_⟩
  · rcases h2 with rfl | ⟨_, h2, _⟩
    · exact .inr ⟨k, 0, rfl, h1.1, fun i e he => by simpa using h1.2 i e he⟩
    · exact .inl (List.length_eq_zero_iff.1 h2)
  · rcases h4 with rfl | ⟨_, h4, _⟩
    · exact .inr ⟨l, 0, rfl, h3.1, fun i e he => by simpa using h3.2 i e he⟩
    · exact .inl (List.length_eq_zero_iff.1 h4)
theorem of_own {ga gb ca cb : Nat} (h1 : FE W ga es es.length) (h2 : FB W gb bs bs.length) : Rr W es bs (some ⟨ga, 0, none⟩) ca (some ⟨gb, 0, none⟩) cb := ⟨⟨ga, h1.all, .inl rfl⟩, gb, h2.all, .inl rfl⟩
theorem of_oa {B : Nat} (h0 : 0 < W.heap.size) (h1 : OA W B ea ec es) (h2 : OC W B ba bc bs) : Rw W es bs ea ba := (us_rr ((⟨h1, h2⟩ : Tr B W es bs ea ec ba bc).use h0)).rw
theorem at_low {B : Nat} (hb : Below B W W') (hB : B ≤ W.heap.size) (hg : 0 < B) (hm : W.cell? ⟨0, 0, none⟩ = some (.int .i64 m)) : W'.cell? ⟨0, 0, none⟩ = some (.int .i64 m) := (hb.cell (p := ⟨0, 0, none⟩) hg).trans hm
theorem m_below (hm : W.cell? ⟨0, 0, none⟩ = some (.int .i64 m)) (hb : Below W.heap.size W W') : W'.cell? ⟨0, 0, none⟩ = some (.int .i64 m) := at_low hb (Nat.le_refl _) (block_lt_of_cell hm) hm
def V2 (ea : Option Addr) (n ec : Nat) (ba : Option Addr) (l bc : Nat) : Value := .agg #[.slice ea n ec, .slice ba l bc]
theorem d_route (a : Option Addr) (len cap : Nat) (w : World) (hlen : len ≤ 1048576) (hc : dw.Code w w.heap.size a len) :
    Calls Tryz.prog 5 #[.slice a len cap] w fun e w' => ∃ (es : List Ex) (bs : List Bi) (ea : Option Addr) (ec : Nat) (ba : Option Addr) (bc : Nat) (x k : ByteArray), e = .returned (.tuple #[.agg #[.slice ea es.length ec, .slice ba bs.length bc], .string x, .string k]) ∧ Sm 200 es bs ∧ Us w' es bs ea ec ba bc ∧ (x.size ≤ 31 ∧ k.size ≤ 100) ∧ Below w.heap.size w w' := by
  refine (drs.draw_route a len cap w hlen hc).mono ?_
  rintro e w' ⟨⟨es, bs, ea, ec, ba, bc, x, k, rfl, h1, h2, h3, h4⟩, hb, hlt⟩
  exact ⟨es, bs, ea, ec, ba, bc, x, k, rfl, h1, h2.use (by omega), ⟨h3, h4⟩, hb⟩
theorem d_bind (a : Option Addr) (len cap : Nat) (w : World) (hlen : len ≤ 1048576) (hc : dw.Code w w.heap.size a len) :
    Calls Tryz.prog 8 #[.slice a len cap] w fun e w' => ∃ (es : List Ex) (bs : List Bi) (ea : Option Addr) (ec : Nat) (ba : Option Addr) (bc : Nat) (x k q : ByteArray), e = .returned (.tuple #[.agg #[.slice ea es.length ec, .slice ba bs.length bc], .string x, .string k, .string q]) ∧ Sm 200 es bs ∧ Us w' es bs ea ec ba bc ∧ (x.size ≤ 31 ∧ k.size ≤ 100 ∧ q.size ≤ 1) ∧ Below w.heap.size w w' := by
  refine (drs.draw_bind a len cap w hlen hc).mono ?_
  rintro e w' ⟨⟨es, bs, ea, ec, ba, bc, x, k, q, rfl, h1, h2, h3, h4, h5⟩, hb, hlt⟩
  exact ⟨es, bs, ea, ec, ba, bc, x, k, q, rfl, h1, h2.use (by omega), ⟨h3, h4, h5⟩, hb⟩
theorem d_decl (a : Option Addr) (len cap : Nat) (w : World) (hlen : len ≤ 1048576) (hc : dw.Code w w.heap.size a len) :
    Calls Tryz.prog 11 #[.slice a len cap] w fun e w' => ∃ (es : List Ex) (bs : List Bi) (ea : Option Addr) (ec : Nat) (ba : Option Addr) (bc : Nat) (n : ByteArray) (kd : Int), e = .returned (.tuple #[.agg #[.slice ea es.length ec, .slice ba bs.length bc], .string n, .int .i64 kd]) ∧ Sm 200 es bs ∧ Us w' es bs ea ec ba bc ∧ n.size ≤ 31 ∧ Below w.heap.size w w' := by
  refine (drs.draw_decl a len cap w hlen hc).mono ?_
  rintro e w' ⟨⟨es, bs, ea, ec, ba, bc, n, kd, rfl, h1, h2, h3⟩, hb, hlt⟩
  exact ⟨es, bs, ea, ec, ba, bc, n, kd, rfl, h1, h2.use (by omega), h3, hb⟩
theorem t_route (h : Rr W es bs ea ec ba bc) (hs : Sm j es bs) (hj : j ≤ 1000) (x k : ByteArray) (hx : x.size ≤ 40 ∧ k.size ≤ 100) (hm : W.cell? ⟨0, 0, none⟩ = some (.int .i64 m)) : Calls Tryz.prog 6 #[.agg #[.slice ea es.length ec, .slice ba bs.length bc], .string x, .string k] W fun e w' =>
    ∃ la lc, e = .returned (.tuple #[.slice la (rta.ansL es bs x k).length lc, .bool (rta.ansB es bs x k)]) ∧ Ls w' (rta.ansL es bs x k) la ∧ Below W.heap.size W w' := by
  obtain ⟨ka, hE, hna⟩ := h.he
  obtain ⟨kb, hB, hnb⟩ := h.hb
  have ht := hs.tt
  refine (rti.impl_route es bs ka ec kb bc x k m W (by omega) (by omega) hs.sE hs.sB (by omega) (by omega) hE hB ea ba hna hnb hm).mono ?_
  rintro e w' ⟨v, rfl, hb, ⟨h1, rfl⟩ | ⟨g, cap, rfl, ho⟩⟩
  · rw [h1]
    exact ⟨none, 0, rfl, ⟨.inl rfl, .inl rfl⟩, hb⟩
  · exact ⟨some ⟨g, 0, none⟩, cap, rfl, ⟨(ptt.row_of ho).1, .inr ⟨g, rfl⟩⟩, hb⟩
theorem s_route (h : Rr W es bs ea ec ba bc) (hs : Sm j es bs) (hj : j ≤ 1000) (x k : ByteArray) (hx : x.size ≤ 40 ∧ k.size ≤ 100) : Calls Tryz.prog 7 #[.agg #[.slice ea es.length ec, .slice ba bs.length bc], .string x, .string k] W fun e w' =>
    ∃ la lc, e = .returned (.tuple #[.slice la (rta.ansL es bs x k).length lc, .bool (rta.ansB es bs x k)]) ∧ Ls w' (rta.ansL es bs x k) la ∧ Below W.heap.size W w' := by
  obtain ⟨ka, hE, hna⟩ := h.he
  obtain ⟨kb, hB, hnb⟩ := h.hb
  have ht := hs.tt
  refine (rsr.spec_route es bs ka ec kb bc x k W (by omega) (by omega) hs.sE hs.sB (by omega) (by omega) hE hB ea ba hna hnb).mono ?_
  rintro e w' ⟨g, c, rfl, h1, hb⟩
  exact ⟨_, c, rfl, ⟨h1, .inr ⟨g, rfl⟩⟩, hb⟩
theorem t_bind (h : Rr W es bs ea ec ba bc) (hs : Sm j es bs) (hj : j ≤ 1000) (x k q : ByteArray) (hx : x.size ≤ 40 ∧ k.size ≤ 100 ∧ q.size ≤ 40) : Calls Tryz.prog 9 #[.agg #[.slice ea es.length ec, .slice ba bs.length bc], .string x, .string k, .string q] W fun e w' =>
    ∃ ga ca gb cb, e = .returned (.tuple #[.agg #[.slice ga es.length ca, .slice gb (bp.ansB es bs ⟨x, k, q⟩).length cb], .bool (bp.retB es bs ⟨x, k, q⟩)]) ∧ Rr w' es (bp.ansB es bs ⟨x, k, q⟩) ga ca gb cb ∧ Below W.heap.size W w' := by
  obtain ⟨ka, hE, hna⟩ := h.he
  obtain ⟨kb, hB, hnb⟩ := h.hb
  have ht := hs.tt
  refine (bim.impl_bind es bs ea ba ec bc x k q W (by omega) (by omega) hs.sE hs.sB (by omega) (by omega) (by omega) hE hB hna hnb).mono ?_
  rintro e w' ⟨ga, ca, gb, cb, rfl, _, _, _, h1, h2, hb⟩
  exact ⟨_, ca, _, cb, rfl, of_own h1 h2, hb⟩
theorem s_bind (h : Us W es bs ea ec ba bc) (hs : Sm j es bs) (hj : j ≤ 1000) (x k q : ByteArray) (hx : x.size ≤ 40 ∧ k.size ≤ 100 ∧ q.size ≤ 40) : Calls Tryz.prog 10 #[.agg #[.slice ea es.length ec, .slice ba bs.length bc], .string x, .string k, .string q] W fun e w' =>
    ∃ ga ca gb cb, e = .returned (.tuple #[.agg #[.slice ga es.length ca, .slice gb (bp.ansB es bs ⟨x, k, q⟩).length cb], .bool (bp.retB es bs ⟨x, k, q⟩)]) ∧ Rw w' es (bp.ansB es bs ⟨x, k, q⟩) ga gb ∧ Below W.heap.size W w' := by
  obtain ⟨ka, hE, _⟩ := h.he
  have h0 := hE.1
  refine (h.bind hs hj x k q hx).mono ?_
  rintro e w' ⟨ga, gb, ca, cb, rfl, h1, h2, hb⟩
  exact ⟨ga, ca, gb, cb, rfl, of_oa (by have := hb.size; omega) h1 h2, hb⟩
theorem t_decl (h : Rr W es bs ea ec ba bc) (hs : Sm j es bs) (hj : j ≤ 1000) (n : ByteArray) (kd : Int) (hn : n.size ≤ 40) : Calls Tryz.prog 12 #[.agg #[.slice ea es.length ec, .slice ba bs.length bc], .string n, .int .i64 kd] W fun e w' =>
    ∃ ga ca gb cb, e = .returned (.tuple #[.agg #[.slice ga (dp.ansD es bs n kd).length ca, .slice gb bs.length cb], .bool (dp.retD es bs n kd)]) ∧ Rr w' (dp.ansD es bs n kd) bs ga ca gb cb ∧ Below W.heap.size W w' := by
  obtain ⟨ka, hE, hna⟩ := h.he
  obtain ⟨kb, hB, hnb⟩ := h.hb
  have ht := hs.tt
  refine (dim.impl_declare es bs ea ba ec bc n kd W (by omega) (by omega) hs.sE hs.sB (by omega) hE hB hna hnb).mono ?_
  rintro e w' ⟨ga, ca, gb, cb, rfl, _, _, _, h1, h2, hb⟩
  exact ⟨_, ca, _, cb, rfl, of_own h1 h2, hb⟩
theorem s_decl (h : Us W es bs ea ec ba bc) (hs : Sm j es bs) (hj : j ≤ 1000) (n : ByteArray) (kd : Int) (hn : n.size ≤ 40) : Calls Tryz.prog 13 #[.agg #[.slice ea es.length ec, .slice ba bs.length bc], .string n, .int .i64 kd] W fun e w' =>
    ∃ ga ca gb cb, e = .returned (.tuple #[.agg #[.slice ga (dp.ansD es bs n kd).length ca, .slice gb bs.length cb], .bool (dp.retD es bs n kd)]) ∧ Rw w' (dp.ansD es bs n kd) bs ga gb ∧ Below W.heap.size W w' := by
  obtain ⟨ka, hE, _⟩ := h.he
  have h0 := hE.1
  refine (h.decl hs hj n kd hn).mono ?_
  rintro e w' ⟨ga, gb, ca, cb, rfl, h1, h2, hb⟩
  exact ⟨ga, ca, gb, cb, rfl, of_oa (by have := hb.size; omega) h1 h2, hb⟩
theorem t_unbind (h : Rr W es bs ea ec ba bc) (hs : Sm j es bs) (hj : j ≤ 1000) (q : ByteArray) : Calls Tryz.prog 18 #[.agg #[.slice ea es.length ec, .slice ba bs.length bc], .string q] W fun e w' =>
    ∃ ga ca gb cb, e = .returned (.agg #[.slice ga es.length ca, .slice gb (bs.filter fun b => !db.mine q b).length cb]) ∧ Rr w' es (bs.filter fun b => !db.mine q b) ga ca gb cb ∧ (∃ b, gb = some ⟨b, 0, none⟩) ∧ Below W.heap.size W w' := by
  obtain ⟨ka, hE, hna⟩ := h.he
  obtain ⟨kb, hB, hnb⟩ := h.hb
  have ht := hs.tt
  refine (iu.impl_unbind q es bs ea ba ec bc W (by omega) (by omega) hs.sE hs.sB hE hB hna hnb).mono ?_
  rintro e w' ⟨ga, gb, rfl, _, _, _, h1, h2, hb⟩
  exact ⟨_, _, _, _, rfl, of_own h1 h2, ⟨gb, rfl⟩, hb⟩
theorem s_unbind (h : Rr W es bs ea ec ba bc) (hs : Sm j es bs) (hj : j ≤ 1000) (q : ByteArray) : Calls Tryz.prog 19 #[.agg #[.slice ea es.length ec, .slice ba bs.length bc], .string q] W fun e w' =>
    ∃ ga ca gb cb, e = .returned (.agg #[.slice ga es.length ca, .slice gb (bs.filter fun b => !db.mine q b).length cb]) ∧ Rw w' es (bs.filter fun b => !db.mine q b) ga gb ∧ Below W.heap.size W w' := by
  obtain ⟨ka, hE, hna⟩ := h.he
  obtain ⟨kb, hB, hnb⟩ := h.hb
  have ht := hs.tt
  refine (su.spec_unbind q es bs ea ba ec bc W (by omega) (by omega) hE hB hna hnb).mono ?_
  rintro e w' ⟨ga, gb, ca, cb, rfl, h1, h2, hb⟩
  exact ⟨ga, ca, gb, cb, rfl, ⟨se_row h1, sb_row h2⟩, hb⟩
theorem p_ok (h : Rr W es bs ea ec ba bc) (hs : Sm j es bs) (hj : j ≤ 1000) : Calls Tryz.prog 16 #[.agg #[.slice ea es.length ec, .slice ba bs.length bc]] W fun e w' => e = .returned (.bool (rta.okr es bs)) ∧ Below W.heap.size W w' := by
  obtain ⟨ka, hE, hna⟩ := h.he
  obtain ⟨kb, hB, hnb⟩ := h.hb
  have ht := hs.tt
  refine (ri.impl_routes es bs ka ec kb bc W (by omega) (by omega) hs.sE hs.sB hE hB ea ba hna hnb).mono ?_
  rintro e w' ⟨⟨b, rfl, hb⟩, hbe⟩
  rw [rta.okr_of hb]
  exact ⟨rfl, hbe⟩
theorem s_ok (h : Rr W es bs ea ec ba bc) (hs : Sm j es bs) (hj : j ≤ 1000) : Calls Tryz.prog 17 #[.agg #[.slice ea es.length ec, .slice ba bs.length bc]] W fun e w' => e = .returned (.bool (rta.okr es bs)) ∧ Below W.heap.size W w' := by
  obtain ⟨ka, hE, hna⟩ := h.he
  obtain ⟨kb, hB, hnb⟩ := h.hb
  have ht := hs.tt
  refine (rk.spec_routes es bs ka ec kb bc W (by omega) (by omega) hs.sE hs.sB hE hB ea ba hna hnb).mono ?_
  rintro e w' ⟨⟨b, rfl, hb⟩, hbe⟩
  rw [rta.okr_of hb]
  exact ⟨rfl, hbe⟩
theorem p_same (h : Rw W es bs ea ba) (h' : Rw W es bs ra rb) (hs : Sm j es bs) (hj : j ≤ 1000) : Calls Tryz.prog 15 #[.agg #[.slice ea es.length ec, .slice ba bs.length bc], .agg #[.slice ra es.length rc, .slice rb bs.length rd]] W fun e w' => e = .returned (.bool true) ∧ Below W.heap.size W w' := by
  have ht := hs.tt
  exact srt.same_routes es bs ea ba ra rb ec bc rc rd W (by omega) (by omega) h.he h'.he h.hb h'.hb
theorem p_texts (h : Ls W L la) (h' : Ls W L lb) (hl : L.length ≤ 1048576) : Calls Tryz.prog 14 #[.slice la L.length lc, .slice lb L.length ld] W fun e w' => e = .returned (.bool true) ∧ Below W.heap.size W w' :=
  stx.same_texts L la lb lc ld W hl h.hr h'.hr
/-- a text's cell -/
theorem Ls.at {g i : Nat} {e : ByteArray} (h : Ls W L (some ⟨g, 0, none⟩)) (he : L[i]? = some e) : W.cell? ⟨g, i, none⟩ = some (.string e) := ptt.row_cell h.hr he
/-- a binding's queue -/
theorem Rr.queue {g i : Nat} {e : Bi} (h : Rr W es bs ea ec (some ⟨g, 0, none⟩) bc) (he : bs[i]? = some e) : W.cell? ⟨g, i * 3 + 2, none⟩ = some (.string e.q) := by
  obtain ⟨k, h1, h2 | ⟨h2, _⟩⟩ := h.hb
  · cases h2; exact (h1.2 i e he).2.2
  · cases h2
theorem sm_filter (h : Sm j es bs) (p : Bi → Bool) : Sm j es (bs.filter p) :=
  ⟨by have := h.tt; have := List.length_filter_le p bs; omega, h.eo, fun b hb => h.bo b (List.mem_filter.1 hb).1⟩
end
end Go.Proofs.YtnooibeohdfcmaaGreatDoor.rtt
