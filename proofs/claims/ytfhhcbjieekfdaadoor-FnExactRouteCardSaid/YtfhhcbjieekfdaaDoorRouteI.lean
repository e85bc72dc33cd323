/- The program's Route: what the specification's answers, in a row of its own, or nothing. -/
import Derived.Test.YtfhhcbjieekfdaaDoorRouteOf
import Derived.Test.YtfhhcbjieekfdaaDoorRouteSorted
import Derived.Test.YtfhhcbjieekfdaaDoorCloneLaid
import Derived.Test.YtfhhcbjieekfdaaDoorRouteSpecR
namespace Go.Proofs.YtfhhcbjieekfdaaDoor.rti
open Go.ChangeShapes Go.WideShapes Go.ChangeAt Go.RowKit Go.Proofs.YtfhhcbjieekfdaaDoor.fl Go.Proofs.YtfhhcbjieekfdaaDoor.rr Go.Proofs.YtfhhcbjieekfdaaDoor.rc Go.Proofs.YtfhhcbjieekfdaaDoor.ro Go.Proofs.YtfhhcbjieekfdaaDoor.ptt Go.Proofs.YtfhhcbjieekfdaaDoor.rtp Go.Proofs.YtfhhcbjieekfdaaDoor.rta Go.Proofs.YtfhhcbjieekfdaaDoor.rtk Go.Proofs.YtfhhcbjieekfdaaDoor.rtg Go.Proofs.YtfhhcbjieekfdaaDoor.rto Go.Proofs.YtfhhcbjieekfdaaDoor.rts
set_option linter.unusedVariables false

/-- the queues of what is bound to x and by which a message goes -/
def go (kind : Int) (key : ByteArray) (l : List Bi) : List ByteArray := (l.filter fun b => goes kind b key).map (·.q)
theorem go_qs (kind : Int) (x key : ByteArray) (bs : List Bi) : go kind key (of x bs) = qs kind x key bs := by
  unfold go of qs hit
  rw [List.filter_filter]
  congr 1
  exact List.filter_congr fun b _ => by rw [Bool.and_comm]
theorem go_no {kind : Int} {key : ByteArray} {l : List Bi} {k : Nat} {b : Bi} (h : l[k]? = some b) (hk : goes kind b key = false) : go kind key (l.take (k + 1)) = go kind key (l.take k) := by
  unfold go
  rw [List.take_add_one, List.filter_append, h]
  simp [hk]
theorem go_yes {kind : Int} {key : ByteArray} {l : List Bi} {k : Nat} {b : Bi} (h : l[k]? = some b) (hk : goes kind b key = true) : go kind key (l.take (k + 1)) = go kind key (l.take k) ++ [b.q] := by
  unfold go
  rw [List.take_add_one, List.filter_append, h]
  simp [hk]
theorem go_len (kind : Int) (key : ByteArray) (l : List Bi) : (go kind key l).length ≤ l.length := by
  unfold go
  rw [List.length_map]
  exact List.length_filter_le _ _
/-- the answer: nothing, or a row of its own -/
def IR (w : World) (L : List ByteArray) (b : Bool) (e : Ending) (w' : World) : Prop := ∃ v, e = .returned (.tuple #[v, .bool b]) ∧ Below w.heap.size w w' ∧ ((L = [] ∧ v = .slice none 0 0) ∨ ∃ g cap, v = .slice (some ⟨g, 0, none⟩) L.length cap ∧ w'.ownsRow w.heap.size 9 1 (.slice (some ⟨g, 0, none⟩) L.length cap) L.length (L.flatMap cS))
theorem kind_le {es : List Ex} {bs : List Bi} {x : ByteArray} (h : OkR es bs) : kindOf es x ≤ 2 := by
  unfold kindOf
  cases hf : es.find? (fun e => decide (e.n = x)) with
  | none => decide
  | some e =>
    obtain ⟨t, ht⟩ := List.mem_iff_getElem?.1 (List.mem_of_find?_eq_some hf)
    have := h.eo t e ht
    simp only [exOk, Bool.and_eq_true, decide_eq_true_eq] at this
    exact this.2.2
/-- while the bound ones are gone through -/
structure Sg (W : World) (L : List ByteArray) (v : Value) (wr : World) : Prop where
  bel : Below W.heap.size W wr
  al : AllS wr W.heap.size v L
  nl : L = [] → v = .slice none 0 0
theorem Sg.on {W wr X : World} {L : List ByteArray} {v : Value} (h : Sg W L v wr) (hb : Below wr.heap.size wr X) : Sg W L v X := ⟨h.bel.trans (hb.mono h.bel.size), h.al.on hb, h.nl⟩
theorem own1 (w : World) (s : ByteArray) (B : Nat) (hB : B ≤ w.heap.size) : (w.alloc (.cells #[.string s] 9)).ownsRow B 9 1 (.slice (some ⟨w.heap.size, 0, none⟩) 1 1) 1 [.string s] := by
  refine ⟨rfl, .inr ⟨w.heap.size, 1, #[.string s], rfl, hB, heap_alloc_new w _, Nat.le_refl _, by unfold maxLen; omega, rfl, rfl⟩⟩

set_option maxRecDepth 100000 in
set_option maxHeartbeats 4000000 in
theorem impl_route (es : List Ex) (bs : List Bi) (ge ce gb cb : Nat) (x key : ByteArray) (m : Int) (w : World) (hel : es.length ≤ 1048576) (hbl : bs.length ≤ 1048576) (hes : ∀ e ∈ es, e.n.size ≤ 1048576) (hbs : ∀ b ∈ bs, b.x.size ≤ 1048576 ∧ b.k.size ≤ 1048576 ∧ b.q.size ≤ 1048576) (hx : x.size ≤ 1048576) (hkey : key.size ≤ 1048576) (hE : RE w ge es) (hB : RB w gb bs) (hm : w.cell? ⟨0, 0, none⟩ = some (.int .i64 m)) :
    Calls Tryd.prog 7 #[.agg #[.slice (some ⟨ge, 0, none⟩) es.length ce, .slice (some ⟨gb, 0, none⟩) bs.length cb], .string x, .string key] w fun e w' => IR w (ansL es bs x key) (ansB es bs x key) e w' := by
  have hA := bnew w #[.slice (some ⟨ge, 0, none⟩) es.length ce, .slice (some ⟨gb, 0, none⟩) bs.length cb] 33
  have hb : Below w.heap.size w (w.alloc (.cells #[.slice (some ⟨ge, 0, none⟩) es.length ce, .slice (some ⟨gb, 0, none⟩) bs.length cb] 33)) := (Below.refl _ _).alloc (Nat.le_refl _) _
  obtain ⟨W, hW⟩ : ∃ W, w.alloc (.cells #[.slice (some ⟨ge, 0, none⟩) es.length ce, .slice (some ⟨gb, 0, none⟩) bs.length cb] 33) = W := ⟨_, rfl⟩
  have hlt : w.heap.size < W.heap.size := by rw [← hW]; simp
  rw [hW] at hA hb
  have HA : Hid (W.heap[w.heap.size]? = some (.cells #[.slice (some ⟨ge, 0, none⟩) es.length ce, .slice (some ⟨gb, 0, none⟩) bs.length cb] 33 (0, 0))) := hA
  have HE : Hid (RE W ge es) := hE.below hb
  have HB : Hid (RB W gb bs) := hB.below hb
  have HBS : Hid (∀ b ∈ bs, b.x.size ≤ 1048576 ∧ b.k.size ≤ 1048576 ∧ b.q.size ≤ 1048576) := hbs
  have hml := block_lt_of_cell hm
  have HM : Hid (W.cell? ⟨0, 0, none⟩ = some (.int .i64 m)) := (hb.cell (p := ⟨0, 0, none⟩) hml).trans hm
  have hmW : 0 < W.heap.size := Nat.lt_of_lt_of_le hml hb.size
  have BOX : Hid (∀ w', Below W.heap.size W w' → w'.cell? ⟨w.heap.size, 0, none⟩ = some (.slice (some ⟨ge, 0, none⟩) es.length ce) ∧ w'.cell? ⟨w.heap.size, 1, none⟩ = some (.slice (some ⟨gb, 0, none⟩) bs.length cb)) := fun w' h => by
    have h1 := bstay HA.out h hlt
    exact ⟨bcell h1 rfl, bcell h1 rfl⟩
  have hro := ri.impl_routes es bs ge ce gb cb W hel hbl hes hbs HE.out HB.out
  have hky := fun W => ky.impl_key key W hkey
  obtain ⟨c0, c1⟩ := BOX.out W (Below.refl _ _)
  clear hE hB hm hbs hA hes
  go_enter Tryd.func7, Tryd.ntmps7
  go_wp2_with (go_at_call 22; fail)
  clear hW
  refine hro.mono ?_
  rintro e w1 ⟨⟨rb, rfl, hrb⟩, hb1⟩
  have hokr : okr es bs = rb := okr_of hrb
  have HRB : Hid (rb = true ↔ OkR es bs) := hrb
  have hbw1 : Below w.heap.size w w1 := hb.trans (hb1.mono hb.size)
  clear hro c0 c1 hrb
  cases rb with
  | false =>
    obtain ⟨h1, h2⟩ := ans_bad (es := es) (bs := bs) (x := x) (key := key) (by rw [hokr]; rfl)
    have HF : Hid (IR w (ansL es bs x key) (ansB es bs x key) (.returned (.tuple #[.slice none 0 0, .bool false])) w1) := by
      unfold Hid
      rw [h1, h2]
      exact ⟨_, rfl, hbw1, .inl ⟨rfl, rfl⟩⟩
    clear h1 h2 hokr
    go_wp2
    go_ret2
    exact HF.out
  | true =>
    have hk1 := hky w1
    obtain ⟨kg, hkg⟩ : ∃ kg, ky.good key = kg := ⟨_, rfl⟩
    rw [hkg] at hk1
    cases kg with
    | false =>
      obtain ⟨h1, h2⟩ := ans_bad (es := es) (bs := bs) (x := x) (key := key) (by rw [hokr, hkg]; rfl)
      have HF : Hid (IR w (ansL es bs x key) (ansB es bs x key) (.returned (.tuple #[.slice none 0 0, .bool false])) w1) := by
        unfold Hid
        rw [h1, h2]
        exact ⟨_, rfl, hbw1, .inl ⟨rfl, rfl⟩⟩
      clear h1 h2 hokr hkg
      go_wp2_with (go_at_call 23; refine hk1.mono ?_; rintro e w2 ⟨rfl, hw2⟩; obtain rfl := hw2)
      go_ret2
      exact HF.out
    | true =>
      have hgood : (okr es bs && ky.good key) = true := by rw [hokr, hkg]; rfl
      clear hokr hkg
      by_cases hxe : x = ⟨#[]⟩
      · obtain ⟨h1, h2⟩ := ans_self (es := es) (bs := bs) (key := key) hgood hxe
        have hq : (x.toList == ([] : List UInt8)) = true := by rw [hxe]; simp [ByteArray.toList_eq]
        have hcl := fun W => cl.clone key W (by omega)
        have HF : Hid (∀ w3, Below w1.heap.size w1 w3 → IR w (ansL es bs x key) (ansB es bs x key) (.returned (.tuple #[.slice (some ⟨w3.heap.size, 0, none⟩) 1 1, .bool true])) (w3.alloc (.cells #[.string key] 9))) := fun w3 h3 => by
          rw [h1, h2]
          have hbw3 := hbw1.trans (h3.mono hbw1.size)
          exact ⟨_, rfl, hbw3.alloc hbw3.size _, .inr ⟨w3.heap.size, 1, rfl, own1 w3 key _ hbw3.size⟩⟩
        clear h1 h2 hgood hxe
        go_wp2_with (first | (go_at_call 23; refine hk1.mono ?_; rintro e w2 ⟨rfl, hw2⟩; obtain rfl := hw2) | (go_at_call 24; refine (hcl _).mono ?_; rintro e w3 ⟨rfl, hb3⟩))
        go_ret2
        exact HF.out w3 hb3
      · have hq : (x.toList == ([] : List UInt8)) = false := rsr.emp_eq hxe
        have hex := exchange_of es bs ge ce gb cb x w1 hel hbl (HE.out.below hb1) (HB.out.below hb1) (HRB.out.1 rfl)
        have hokr2 : OkR es bs := HRB.out.1 rfl
        have hk2 : kindOf es x ≤ 2 := kind_le hokr2
        clear hokr2
        obtain ⟨c0, c1⟩ := BOX.out w1 hb1
        have t3 : True := trivial
        go_wp2_with (first | (go_at_call 23; have _t := t3; refine hk1.mono ?_; rintro e w2 ⟨rfl, hw2⟩; obtain rfl := hw2; clear t3 _t) | (go_at_call 25; fail))
        refine hex.mono ?_
        rintro e w3 ⟨hb3, ⟨hneg, rfl⟩ | ⟨hpos, v, rfl, hall⟩⟩
        · obtain ⟨h1, h2⟩ := ans_none (es := es) (bs := bs) (key := key) hgood hxe hneg
          have hbw3 := hbw1.trans (hb3.mono hbw1.size)
          have HF : Hid (IR w (ansL es bs x key) (ansB es bs x key) (.returned (.tuple #[.slice none 0 0, .bool false])) w3) := by
            unfold Hid
            rw [h1, h2]
            exact ⟨_, rfl, hbw3, .inl ⟨rfl, rfl⟩⟩
          clear h1 h2 hgood hxe hq hex c0 c1 hk1 hneg hk2
          go_wp2
          go_ret2
          exact HF.out
        · obtain ⟨h1, h2⟩ := ans_some (es := es) (bs := bs) (key := key) hgood hxe (by omega)
          have hbw3 := hbw1.trans (hb3.mono hbw1.size)
          rw [← go_qs] at h1
          have HL1 : Hid (ansL es bs x key = puts (go (kindOf es x) key (of x bs))) := h1
          have HL2 : Hid (ansB es bs x key = true) := h2
          obtain ⟨ao, cap, hv⟩ := hall.form
          subst hv
          have HROW : Hid (Row cB 3 w3 w3.heap.size ao (of x bs)) := hall.row
          have HSB : Hid (∀ b ∈ of x bs, b.x.size ≤ 1048576 ∧ b.k.size ≤ 1048576 ∧ b.q.size ≤ 1048576) := fun b hb => HBS.out b (List.mem_filter.1 hb).1
          have hlen : (of x bs).length ≤ 1048576 := Nat.le_trans (of_len x bs) hbl
          obtain ⟨kd, hkd⟩ : ∃ kd, kindOf es x = kd := ⟨_, rfl⟩
          obtain ⟨l, hl⟩ : ∃ l, of x bs = l := ⟨_, rfl⟩
          rw [hkd] at hpos hk2 HL1 ⊢
          rw [hl] at HROW HSB hlen HL1 ⊢
          have hmt := meth_bound kd (.slice ao l.length cap)
          have hbd := bound (.slice ao l.length cap)
          clear h1 h2 hgood hxe hq hex c0 c1 hk1 hall hkd hl
          have HS0 : Hid (Sg w3 (go kd key (l.take 0)) (.slice none 0 0) w3) := ⟨Below.refl _ _, .inl ⟨by simp [go], none, rfl⟩, fun _ => rfl⟩
          rcases HROW.out with hnil | ⟨rb, off, ha, hrl, hrc⟩
          · subst hnil
            have hmt0 := meth_bound kd (.slice ao 0 cap)
            have hbd0 := bound (.slice ao 0 cap)
            have hsn := fun W => shSortLaidS.slices_Sort_string_none none 0 W
            have hcn := fun W => shSortLaidS.slices_Compact_string_empty none 0 W
            have HF : Hid (IR w (ansL es bs x key) (ansB es bs x key) (.returned (.tuple #[.slice none 0 0, .bool true])) w3) := by
              unfold Hid
              rw [HL1.out, HL2.out]
              exact ⟨_, rfl, hbw3, .inl ⟨by simp [go, puts], rfl⟩⟩
            clear HS0 HROW HSB hlen hmt hbd
            go_wp2_with (go_at_call 110; refine (hbd0 _).mono ?_; rintro e w4 ⟨rfl, hw4⟩; obtain rfl := hw4.symm)
            clear hmt0 hbd0
            refine wp_loop_rounds 1 ?_
            rw [rounds_succ]
            go_wp2_with (first | (go_at_call 27; refine (hsn _).mono ?_; rintro e w8 ⟨rfl, hw8⟩; obtain rfl := hw8.symm) | (go_at_call 28; refine (hcn _).mono ?_; rintro e w9 ⟨rfl, hw9⟩; obtain rfl := hw9.symm))
            go_ret2
            exact HF.out
          subst ha
          have HRC : Hid (∀ (i : Nat) (e : Bi), l[i]? = some e → ∀ (j : Nat) (v : Value), (cB e)[j]? = some v → w3.cell? ⟨rb, off + i * 3 + j, none⟩ = some v) := hrc
          clear hrc HROW
          go_wp2_with (go_at_call 110; refine (hbd _).mono ?_; rintro e w4 ⟨rfl, hw4⟩; obtain rfl := hw4.symm)
          clear hmt hbd
          go_loopw [10, 37] (fun v y wr => ∃ k : Nat, k ≤ l.length ∧ y = .int .i64 k ∧ Hid (Sg w3 (go kd key (l.take k)) v wr)) (fun _ y _ => l.length - (intOf y).toNat)
          case atStart => exact ⟨0, Nat.zero_le _, rfl, HS0⟩
          case round =>
            obtain ⟨k, hk, rfl, hst⟩ := hrel
            clear HS0
            have hbel := hst.out.bel
            have hbsz := hbel.size
            by_cases hkl : k < l.length
            · have i2 : (k : Int) < (l.length : Int) := by omega
              have HG : Hid (l[k]? = some l[k]) := List.getElem?_eq_getElem hkl
              have hsz := HSB.out l[k] (List.getElem_mem hkl)
              obtain ⟨⟨bx, bk, bq⟩, he⟩ : ∃ e, l[k] = e := ⟨_, rfl⟩
              rw [he] at HG hsz
              have f0 : wr.cell? ⟨rb, off + k * 3, none⟩ = some (.string bx) := (hbel.cell (p := ⟨rb, off + k * 3, none⟩) hrl).trans (HRC.out k _ HG.out 0 _ rfl)
              have f1 : wr.cell? ⟨rb, off + k * 3 + 1, none⟩ = some (.string bk) := (hbel.cell (p := ⟨rb, off + k * 3 + 1, none⟩) hrl).trans (HRC.out k _ HG.out 1 _ rfl)
              have f2 : wr.cell? ⟨rb, off + k * 3 + 2, none⟩ = some (.string bq) := (hbel.cell (p := ⟨rb, off + k * 3 + 2, none⟩) hrl).trans (HRC.out k _ HG.out 2 _ rfl)
              have hal : Below wr.heap.size wr (wr.alloc (.cells #[.string bx, .string bk, .string bq] 46)) := (Below.refl _ _).alloc (Nat.le_refl _) _
              have hnw := bnew wr #[.string bx, .string bk, .string bq] 46
              have hX3 : Below w3.heap.size w3 (wr.alloc (.cells #[.string bx, .string bk, .string bq] 46)) := hbel.trans (hal.mono hbsz)
              have hW3 : Below W.heap.size W w3 := hb1.trans (hb3.mono hb1.size)
              have hmX := ((hW3.trans (hX3.mono hW3.size)).cell (p := ⟨0, 0, none⟩) hmW).trans HM.out
              have hgb := goes_by kd ⟨hpos, hk2⟩ (.slice (some ⟨rb, off, none⟩) l.length cap) ⟨bx, bk, bq⟩ key m _ hsz.2.1 hkey hmX
              obtain ⟨X, hX⟩ : ∃ X, wr.alloc (.cells #[.string bx, .string bk, .string bq] 46) = X := ⟨_, rfl⟩
              have hXl : wr.heap.size < X.heap.size := by rw [← hX]; simp
              rw [hX] at hal hnw hX3 hgb
              have HNW : Hid (X.heap[wr.heap.size]? = some (.cells #[.string bx, .string bk, .string bq] 46 (0, 0))) := hnw
              have x0 : X.cell? ⟨wr.heap.size, 0, none⟩ = some (.string bx) := bcell hnw rfl
              have x1 : X.cell? ⟨wr.heap.size, 1, none⟩ = some (.string bk) := bcell hnw rfl
              have x2 : X.cell? ⟨wr.heap.size, 2, none⟩ = some (.string bq) := bcell hnw rfl
              have hq1 := hsz.2.2
              obtain ⟨gv, hgv⟩ : ∃ gv, goes kd ⟨bx, bk, bq⟩ key = gv := ⟨_, rfl⟩
              rw [hgv] at hgb
              have HST : Hid (Sg w3 (go kd key (l.take k)) u10 X) := hst.out.on hal
              clear he hnw hmX hsz hst
              cases gv with
              | false =>
                have HN : Hid (∀ w5, Below X.heap.size X w5 → Sg w3 (go kd key (l.take (k + 1))) u10 w5) := fun w5 h5 => by
                  rw [go_no HG.out hgv]
                  exact HST.out.on h5
                clear hgv
                go_wp2_with (go_at_call 26; refine hgb.mono ?_; rintro e w5 ⟨rfl, hb5⟩)
                go_roundw
                case rel => exact ⟨k + 1, by omega, by go_num, HN.out w5 hb5⟩
                case measure => simp [intOf]; omega
              | true =>
                have HQ : Hid (go kd key (l.take (k + 1)) = go kd key (l.take k) ++ [bq]) := go_yes HG.out hgv
                clear hgv
                go_wp2_with (go_at_call 26; fail)
                clear hX
                refine hgb.mono ?_
                rintro e w5 ⟨rfl, hb5⟩
                have g2 : w5.cell? ⟨wr.heap.size, 2, none⟩ = some (.string bq) := bcell (bstay HNW.out hb5 hXl) rfl
                have hcl := cl.clone bq w5 (by omega)
                clear x0 x1 x2 hgb
                go_wp2_with (go_at_call 24; fail)
                refine hcl.mono ?_
                rintro e w6 ⟨rfl, hb6⟩
                have hal6 : Below w6.heap.size w6 (w6.alloc (.cells #[.string bq] 9)) := (Below.refl _ _).alloc (Nat.le_refl _) _
                have hX6 : Below X.heap.size X (w6.alloc (.cells #[.string bq] 9)) := (hb5.trans (hb6.mono hb5.size)).trans (hal6.mono (Nat.le_trans hb5.size hb6.size))
                have hst6 := HST.out.on hX6
                have hln : (go kd key (l.take k)).length ≤ 1048576 := by have h2 := go_len kd key (l.take k); rw [List.length_take] at h2; omega
                obtain ⟨v', w', hrun, hall', hbw'⟩ := app_S bq hst6.al hst6.bel.size hln (bnew w6 _ _) 27
                have HRUN : Hid ((Builtin.append_ #[27, 27] 27 #[u10, .slice (some ⟨w6.heap.size, 0, none⟩) 1 1]).run Tryd.prog (w6.alloc (.cells #[.string bq] 9)) = .ok v' w') := hrun
                have HN : Hid (Sg w3 (go kd key (l.take (k + 1))) v' w') := by
                  unfold Hid
                  rw [HQ.out]
                  exact ⟨hst6.bel.trans hbw', hall', fun h => by simp at h⟩
                clear hrun hall' hbw' hst6 hcl HST g2
                go_wp2_with (at_builtin; refine cpr.wpList_append_run rfl _ _ 27 27 rfl _ _ _ rfl rfl HRUN.out ?_)
                go_wp2
                go_roundw
                case rel => exact ⟨k + 1, by omega, by go_num, HN⟩
                case measure => simp [intOf]; omega
            · obtain rfl : k = l.length := by omega
              rw [List.take_length] at hst
              have hln : (go kd key l).length ≤ 1048576 := Nat.le_trans (go_len kd key l) hlen
              obtain ⟨ql, hql⟩ : ∃ ql, go kd key l = ql := ⟨_, rfl⟩
              rw [hql] at hst hln HL1
              have hbwr : Below w.heap.size w wr := hbw3.trans (hbel.mono hbw3.size)
              rcases hst.out.al with ⟨hz, _⟩ | ⟨g, cp, hv, ho⟩
              · have hv := hst.out.nl hz
                have hsn := fun W => shSortLaidS.slices_Sort_string_none none 0 W
                have hcn := fun W => shSortLaidS.slices_Compact_string_empty none 0 W
                have HF : Hid (IR w (ansL es bs x key) (ansB es bs x key) (.returned (.tuple #[.slice none 0 0, .bool true])) wr) := by
                  unfold Hid
                  rw [HL1.out, HL2.out, hz]
                  exact ⟨_, rfl, hbwr, .inl ⟨by simp [puts], rfl⟩⟩
                clear hz
                subst hv
                clear hst hql
                go_wp2_with (first | (go_at_call 27; refine (hsn _).mono ?_; rintro e w8 ⟨rfl, hw8⟩; obtain rfl := hw8.symm) | (go_at_call 28; refine (hcn _).mono ?_; rintro e w9 ⟨rfl, hw9⟩; obtain rfl := hw9.symm))
                go_ret2
                exact HF.out
              · subst hv
                have hso := sort_texts ql g cp w3.heap.size wr ho hln hbsz
                clear hst hql ho
                go_wp2_with (go_at_call 27; fail)
                refine hso.mono ?_
                rintro e w8 ⟨rfl, ho8, hb8⟩
                have hco := compact_texts ql g cp w3.heap.size w8 ho8 hln
                have hb8w : Below w.heap.size w w8 := hbwr.trans (hb8.mono hbw3.size)
                clear hso ho8
                go_wp2_with (go_at_call 28; fail)
                refine hco.mono ?_
                rintro e w9 ⟨rfl, ho9, hb9⟩
                have HF : Hid (IR w (ansL es bs x key) (ansB es bs x key) (.returned (.tuple #[.slice (some ⟨g, 0, none⟩) (puts ql).length cp, .bool true])) w9) := by
                  unfold Hid
                  rw [HL1.out, HL2.out]
                  exact ⟨_, rfl, hb8w.trans (hb9.mono hbw3.size), .inr ⟨g, cp, rfl, own_mono ho9 hbw3.size⟩⟩
                clear hco ho9
                go_wp2
                go_ret2
                exact HF.out
end Go.Proofs.YtfhhcbjieekfdaaDoor.rti
