/- The program's exchangeOf: an exchange with what is bound to it. -/
import Derived.Test.YtfhhcbjieekfdaaDoorRouteGo
import Derived.Test.YtfhhcbjieekfdaaDoorCopyRows
import Derived.Laws.EntriesVeiled
namespace Go.Proofs.YtfhhcbjieekfdaaDoor.rto
open Go.ChangeShapes Go.WideShapes Go.ChangeAt Go.RowKit Go.Proofs.YtfhhcbjieekfdaaDoor.fl Go.Proofs.YtfhhcbjieekfdaaDoor.rr Go.Proofs.YtfhhcbjieekfdaaDoor.rc Go.Proofs.YtfhhcbjieekfdaaDoor.ro Go.Proofs.YtfhhcbjieekfdaaDoor.rtp Go.Proofs.YtfhhcbjieekfdaaDoor.rta Go.Proofs.YtfhhcbjieekfdaaDoor.rtk Go.Proofs.YtfhhcbjieekfdaaDoor.rtg
set_option linter.unusedVariables false

/-- what is bound to x, of the first k -/
def of (x : ByteArray) (bs : List Bi) : List Bi := bs.filter fun b => decide (b.x = x)
theorem of_no {x : ByteArray} {bs : List Bi} {k : Nat} {b : Bi} (h : bs[k]? = some b) (hk : b.x ≠ x) : of x (bs.take (k + 1)) = of x (bs.take k) := by
  unfold of
  rw [List.take_add_one, List.filter_append, h]
  simp [hk]
theorem of_yes {x : ByteArray} {bs : List Bi} {k : Nat} {b : Bi} (h : bs[k]? = some b) (hk : b.x = x) : of x (bs.take (k + 1)) = of x (bs.take k) ++ [b] := by
  unfold of
  rw [List.take_add_one, List.filter_append, h]
  simp [hk]
theorem of_len (x : ByteArray) (bs : List Bi) : (of x bs).length ≤ bs.length := List.length_filter_le _ _
theorem own_mono {w : World} {B B' s n : Nat} {e : TypeId} {v : Value} {xs : List Value} (h : w.ownsRow B e s v n xs) (hB : B' ≤ B) : w.ownsRow B' e s v n xs := by
  obtain ⟨h1, h2 | ⟨g, cap, cur, h3, h4, h5⟩⟩ := h
  · exact ⟨h1, .inl h2⟩
  · exact ⟨h1, .inr ⟨g, cap, cur, h3, by omega, h5⟩⟩
/-- the answer of exchangeOf -/
def Ex0 (w : World) (es : List Ex) (bs : List Bi) (x : ByteArray) (e : Ending) (w' : World) : Prop :=
  Below w.heap.size w w' ∧ ((kindOf es x < 0 ∧ e = .returned (.tuple #[.nilIface, .bool false])) ∨ (0 ≤ kindOf es x ∧ ∃ v, e = .returned (.tuple #[.iface (kt (kindOf es x)) (.agg #[v]), .bool true]) ∧ AllB w' w.heap.size v (of x bs)))
set_option maxRecDepth 100000 in
set_option maxHeartbeats 2000000 in
theorem exchange_of (es : List Ex) (bs : List Bi) (ge ce gb cb : Nat) (x : ByteArray) (w : World) (hel : es.length ≤ 1048576) (hbl : bs.length ≤ 1048576) (hE : RE w ge es) (hB : RB w gb bs) (hok : OkR es bs) :
    Calls Tryd.prog 25 #[.agg #[.slice (some ⟨ge, 0, none⟩) es.length ce, .slice (some ⟨gb, 0, none⟩) bs.length cb], .string x] w fun e w' => Ex0 w es bs x e w' := by
  have hA := bnew w #[.slice (some ⟨ge, 0, none⟩) es.length ce, .slice (some ⟨gb, 0, none⟩) bs.length cb] 33
  have hb : Below w.heap.size w (w.alloc (.cells #[.slice (some ⟨ge, 0, none⟩) es.length ce, .slice (some ⟨gb, 0, none⟩) bs.length cb] 33)) := (Below.refl _ _).alloc (Nat.le_refl _) _
  obtain ⟨W, hW⟩ : ∃ W, w.alloc (.cells #[.slice (some ⟨ge, 0, none⟩) es.length ce, .slice (some ⟨gb, 0, none⟩) bs.length cb] 33) = W := ⟨_, rfl⟩
  have hlt : w.heap.size < W.heap.size := by rw [← hW]; simp
  rw [hW] at hA hb
  have x0 : W.cell? ⟨w.heap.size, 0, none⟩ = some (.slice (some ⟨ge, 0, none⟩) es.length ce) := bcell hA rfl
  have HA : Hid (W.heap[w.heap.size]? = some (.cells #[.slice (some ⟨ge, 0, none⟩) es.length ce, .slice (some ⟨gb, 0, none⟩) bs.length cb] 33 (0, 0))) := hA
  have hf := ri.find_ex es ge ce x W hel (hE.below hb) hok.eu
  have HE : Hid (RE W ge es) := hE.below hb
  have HB : Hid (RB W gb bs) := hB.below hb
  have HOK : Hid (OkR es bs) := hok
  clear hA hE hB hok
  go_enter Tryd.func25, Tryd.ntmps25
  go_wp2_with (go_at_call 48; fail)
  clear hW
  refine hf.mono ?_
  rintro e w1 ⟨⟨p, fb, rfl, hpos, hfb⟩, hb1⟩
  have hbw1 : Below w.heap.size w w1 := hb.trans (hb1.mono hb.size)
  have hke : ∀ (i : Nat) e, es[i]? = some e → 0 ≤ e.k ∧ e.k ≤ 2 := fun i e he => by
    have := HOK.out.eo i e he
    simp only [exOk, Bool.and_eq_true, decide_eq_true_eq] at this
    exact this.2
  cases fb with
  | false =>
    have hneg : kindOf es x < 0 := by
      rcases Int.lt_or_le (kindOf es x) 0 with h | h
      · exact h
      · exact absurd (hfb.2 ((kind_there (fun i e he => (hke i e he).1) x).1 h)) (by simp)
    clear hf hpos hfb hke x0
    go_wp2
    go_ret2
    exact ⟨hbw1, .inl ⟨hneg, rfl⟩⟩
  | true =>
    obtain ⟨a, hap, han⟩ := (found HOK.out.eu hpos).2 (hfb.1 rfl)
    have hax : a.n = x := cmp_zero.1 han
    have hkind : kindOf es x = a.k := kind_at (fun j f hj hf e => by have := hpos.2.1 j f hj hf; rw [e, cmp_zero.2 rfl] at this; omega) hap hax
    have hak := hke p a hap
    have hpl : p < es.length := (List.getElem?_eq_some_iff.1 hap).1
    have HK : Hid (kindOf es x = a.k) := hkind
    obtain ⟨c0, c1⟩ := (HE.out.below hb1).2 p a hap
    have HA1 : Hid (w1.heap[w.heap.size]? = some (.cells #[.slice (some ⟨ge, 0, none⟩) es.length ce, .slice (some ⟨gb, 0, none⟩) bs.length cb] 33 (0, 0))) := bstay HA.out hb1 hlt
    have HB1 : Hid (RB w1 gb bs) := HB.out.below hb1
    have HC1 : Hid (w1.cell? ⟨ge, p * 2 + 1, none⟩ = some (.int .i64 a.k)) := c1
    have hgl : ge < w1.heap.size := (HE.out.below hb1).1
    have hl1 : w.heap.size < w1.heap.size := Nat.lt_of_lt_of_le hlt hb1.size
    have y1 : w1.cell? ⟨w.heap.size, 1, none⟩ = some (.slice (some ⟨gb, 0, none⟩) bs.length cb) := bcell HA1.out rfl
    have HS0 : Hid (AllB w1 w1.heap.size (.slice none 0 0) (of x (bs.take 0)) ∧ Below w1.heap.size w1 w1) := ⟨.inl ⟨rfl, none, rfl⟩, Below.refl _ _⟩
    have hbl60 := HOK.out.bl
    clear hf hpos hfb hke x0 c0 c1 hkind han hap hax
    go_wp2
    go_loopw [8, 23] (fun v y wr => ∃ k : Nat, k ≤ bs.length ∧ y = .int .i64 k ∧ Hid (AllB wr w1.heap.size v (of x (bs.take k)) ∧ Below w1.heap.size w1 wr)) (fun _ y _ => bs.length - (intOf y).toNat)
    case atStart => exact ⟨0, Nat.zero_le _, rfl, HS0⟩
    case round =>
      obtain ⟨k, hk, rfl, hst⟩ := hrel
      clear HS0
      have hbel := hst.out.2
      have hbs := hbel.size
      by_cases hkl : k < bs.length
      · have i2 : (k : Int) < (bs.length : Int) := by omega
        have HG : Hid (bs[k]? = some bs[k]) := List.getElem?_eq_getElem hkl
        obtain ⟨⟨bx, bk, bq⟩, he⟩ : ∃ e, bs[k] = e := ⟨_, rfl⟩
        rw [he] at HG
        obtain ⟨f0, f1, f2⟩ := (HB1.out.below hbel).2 k _ HG.out
        have hal : Below wr.heap.size wr (wr.alloc (.cells #[.string bx, .string bk, .string bq] 46)) := (Below.refl _ _).alloc (Nat.le_refl _) _
        have hal2 : Below wr.heap.size wr ((wr.alloc (.cells #[.string bx, .string bk, .string bq] 46)).alloc (.cells #[.string bx, .string bk, .string bq] 46)) := hal.alloc (by simp) _
        clear he
        by_cases hbx : bx = x
        · have hqx : (bx.toList == x.toList) = true := by rw [hbx]; simp
          have HQ : Hid (of x (bs.take (k + 1)) = of x (bs.take k) ++ [⟨bx, bk, bq⟩]) := of_yes HG.out hbx
          have hln : (of x (bs.take k)).length ≤ 1048576 := by have h2 := of_len x (bs.take k); rw [List.length_take] at h2; omega
          have hnw := bnew (wr.alloc (.cells #[.string bx, .string bk, .string bq] 46)) #[.string bx, .string bk, .string bq] 46
          rw [World.size_alloc] at hnw
          obtain ⟨v', w', hrun, hall', hbw'⟩ := app_B ⟨bx, bk, bq⟩ (hst.out.1.on hal2) (by simp; omega) hln hnw 83
          have HN : Hid (AllB w' w1.heap.size v' (of x (bs.take (k + 1))) ∧ Below w1.heap.size w1 w') := by
            refine ⟨?_, ?_⟩
            · rw [HQ.out]; exact hall'
            · exact (hbel.trans (hal2.mono hbs)).trans hbw'
          have HRUN : Hid ((Builtin.append_ #[83, 83] 83 #[u8, .slice (some ⟨wr.heap.size + 1, 0, none⟩) 1 1]).run Tryd.prog ((wr.alloc (.cells #[.string bx, .string bk, .string bq] 46)).alloc (.cells #[.string bx, .string bk, .string bq] 46)) = .ok v' w') := hrun
          clear hst hnw hall' hbw' hbx hrun
          go_wp2_with (at_builtin; refine cpr.wpList_append_run rfl _ _ 83 83 rfl _ _ _ rfl rfl HRUN.out ?_)
          go_wp2
          go_roundw
          case rel => exact ⟨k + 1, by omega, by go_num, HN⟩
          case measure => simp [intOf]; omega
        · have hqx : (bx.toList == x.toList) = false := by simp only [beq_eq_false_iff_ne, ne_eq]; exact fun e => hbx (of_same e)
          have HN : Hid (AllB (wr.alloc (.cells #[.string bx, .string bk, .string bq] 46)) w1.heap.size u8 (of x (bs.take (k + 1))) ∧ Below w1.heap.size w1 (wr.alloc (.cells #[.string bx, .string bk, .string bq] 46))) := by
            refine ⟨?_, hbel.trans (hal.mono hbs)⟩
            rw [of_no HG.out hbx]
            exact hst.out.1.on hal
          clear hst hbx
          go_wp2
          go_roundw
          case rel => exact ⟨k + 1, by omega, by go_num, HN⟩
          case measure => simp [intOf]; omega
      · obtain rfl : k = bs.length := by omega
        rw [List.take_length] at hst
        have hall : AllB wr w.heap.size u8 (of x bs) := by
          rcases hst.out.1 with h | ⟨g, cap, h1, h2⟩
          · exact .inl h
          · exact .inr ⟨g, cap, h1, own_mono h2 hbw1.size⟩
        have HF : Hid (Below w.heap.size w wr ∧ AllB wr w.heap.size u8 (of x bs)) := ⟨hbw1.trans (hbel.mono hbw1.size), hall⟩
        have z0 : wr.cell? ⟨w.heap.size, 0, none⟩ = some (.slice (some ⟨ge, 0, none⟩) es.length ce) := bcell (bstay HA1.out hbel hl1) rfl
        have z1 : wr.cell? ⟨ge, p * 2 + 1, none⟩ = some (.int .i64 a.k) := (hbel.cell (p := ⟨ge, p * 2 + 1, none⟩) hgl).trans HC1.out
        have hak3 : a.k = 0 ∨ a.k = 1 ∨ a.k = 2 := by omega
        clear hst hall
        obtain ⟨ao, cap, hv8⟩ := HF.out.2.form
        subst hv8
        rcases hak3 with hk3 | hk3 | hk3
        all_goals
          have hkk := HK.out
          rw [hk3] at z1 hkk
          have HKK : Hid (kindOf es x = _) := hkk
          clear hkk hk3 hak HC1 HK
          go_wp2
          go_ret2
          refine ⟨HF.out.1, .inr ⟨by rw [HKK.out]; decide, _, by rw [HKK.out]; rfl, HF.out.2⟩⟩
end Go.Proofs.YtfhhcbjieekfdaaDoor.rto
