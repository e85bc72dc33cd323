/- The program's Declare: one exchange more, where that is right, in rows of its own; new memory alone. -/
import Derived.Test.YtnooibeohdfcmaaGreatDoorRw14
import Derived.Test.YtnooibeohdfcmaaGreatDoorRw15
import Derived.Test.YtnooibeohdfcmaaGreatDoorCloneLaid
import Derived.Test.YtnooibeohdfcmaaGreatDoorRw09
import Derived.Test.YtnooibeohdfcmaaGreatDoorRouteRows
import Derived.Test.YtnooibeohdfcmaaGreatDoorFlatOwn
import Derived.Deep.DeepAppendWide
import Derived.Laws.CopyOwn
import Derived.Test.YtnooibeohdfcmaaGreatDoorRw02

/- The program's Route: what the specification's answers, in a row of its own, or nothing. -/
namespace Go.Proofs.YtnooibeohdfcmaaGreatDoor.rti
open Go.ChangeShapes Go.WideShapes Go.ChangeAt Go.RowKit Go.Proofs.YtnooibeohdfcmaaGreatDoor.fl Go.Proofs.YtnooibeohdfcmaaGreatDoor.rr Go.Proofs.YtnooibeohdfcmaaGreatDoor.rc Go.Proofs.YtnooibeohdfcmaaGreatDoor.ro Go.Proofs.YtnooibeohdfcmaaGreatDoor.ptt Go.Proofs.YtnooibeohdfcmaaGreatDoor.rtp Go.Proofs.YtnooibeohdfcmaaGreatDoor.rta Go.Proofs.YtnooibeohdfcmaaGreatDoor.rtk Go.Proofs.YtnooibeohdfcmaaGreatDoor.rtg Go.Proofs.YtnooibeohdfcmaaGreatDoor.rto Go.Proofs.YtnooibeohdfcmaaGreatDoor.rts
set_option linter.unusedVariables false

/-- the queues of what is bound to x and by which a message goes -/
def go (kind : Int) (key : ByteArray) (l : List Bi) : List ByteArray := (l.filter fun b => goes kind b key).map (·.q)
theorem go_qs (kind : Int) (x key : ByteArray) (bs : List Bi) : go kind key (of x bs) = qs kind x key bs := by
  unfold go of qs hit
  rw [List.filter_filter]
  congr 1
  exact List.filter_congr fun b _ => by rw [Bool.and_comm]
theorem go_no {kind : Int} {key : ByteArray} {l : List Bi} {k : Nat} {b : Bi} (h : l[k]? = some b) (hk : goes kind b key = false) : go kind key (l.take (k + 1)) = go kind key (l.take k) := by
  unfold go
  rw [List.take_add_one, List.filter_append, h]
  simp [hk]
theorem go_yes {kind : Int} {key : ByteArray} {l : List Bi} {k : Nat} {b : Bi} (h : l[k]? = some b) (hk : goes kind b key = true) : go kind key (l.take (k + 1)) = go kind key (l.take k) ++ [b.q] := by
  unfold go
  rw [List.take_add_one, List.filter_append, h]
  simp [hk]
theorem go_len (kind : Int) (key : ByteArray) (l : List Bi) : (go kind key l).length ≤ l.length := by
  unfold go
  rw [List.length_map]
  exact List.length_filter_le _ _
/-- the answer: nothing, or a row of its own -/
def IR (w : World) (L : List ByteArray) (b : Bool) (e : Ending) (w' : World) : Prop := ∃ v, e = .returned (.tuple #[v, .bool b]) ∧ Below w.heap.size w w' ∧ ((L = [] ∧ v = .slice none 0 0) ∨ ∃ g cap, v = .slice (some ⟨g, 0, none⟩) L.length cap ∧ w'.ownsRow w.heap.size 9 1 (.slice (some ⟨g, 0, none⟩) L.length cap) L.length (L.flatMap cS))
theorem kind_le {es : List Ex} {bs : List Bi} {x : ByteArray} (h : OkR es bs) : kindOf es x ≤ 2 := by
  unfold kindOf
  cases hf : es.find? (fun e => decide (e.n = x)) with
  | none => decide
  | some e =>
    obtain ⟨t, ht⟩ := List.mem_iff_getElem?.1 (List.mem_of_find?_eq_some hf)
    have := h.eo t e ht
    simp only [exOk, Bool.and_eq_true, decide_eq_true_eq] at this
    exact this.2.2
/-- while the bound ones are gone through -/
structure Sg (W : World) (L : List ByteArray) (v : Value) (wr : World) : Prop where
  bel : Below W.heap.size W wr
  al : AllS wr W.heap.size v L
  nl : L = [] → v = .slice none 0 0
theorem Sg.on {W wr X : World} {L : List ByteArray} {v : Value} (h : Sg W L v wr) (hb : Below wr.heap.size wr X) : Sg W L v X := ⟨h.bel.trans (hb.mono h.bel.size), h.al.on hb, h.nl⟩
theorem own1 (w : World) (s : ByteArray) (B : Nat) (hB : B ≤ w.heap.size) : (w.alloc (.cells #[.string s] 9)).ownsRow B 9 1 (.slice (some ⟨w.heap.size, 0, none⟩) 1 1) 1 [.string s] := by
  refine ⟨rfl, .inr ⟨w.heap.size, 1, #[.string s], rfl, hB, heap_alloc_new w _, Nat.le_refl _, by unfold maxLen; omega, rfl, rfl⟩⟩

set_option maxRecDepth 100000 in
set_option maxHeartbeats 4000000 in
theorem impl_route (es : List Ex) (bs : List Bi) (ge ce gb cb : Nat) (x key : ByteArray) (m : Int) (w : World) (hel : es.length ≤ 1048576) (hbl : bs.length ≤ 1048576) (hes : ∀ e ∈ es, e.n.size ≤ 1048576) (hbs : ∀ b ∈ bs, b.x.size ≤ 1048576 ∧ b.k.size ≤ 1048576 ∧ b.q.size ≤ 1048576) (hx : x.size ≤ 1048576) (hkey : key.size ≤ 1048576) (hE : RE w ge es) (hB : RB w gb bs) (ea ba : Option Addr) (hea : Hid (apa.NQ ea ⟨ge, 0, none⟩ es.length ce)) (hba : Hid (apa.NQ ba ⟨gb, 0, none⟩ bs.length cb)) (hm : w.cell? ⟨0, 0, none⟩ = some (.int .i64 m)) :
    Calls Tryz.prog 6 #[.agg #[.slice ea es.length ce, .slice ba bs.length cb], .string x, .string key] w fun e w' => IR w (ansL es bs x key) (ansB es bs x key) e w' := by
  have hA := bnew w #[.slice ea es.length ce, .slice ba bs.length cb] 27
  have hb : Below w.heap.size w (w.alloc (.cells #[.slice ea es.length ce, .slice ba bs.length cb] 27)) := (Below.refl _ _).alloc (Nat.le_refl _) _
  obtain ⟨W, hW⟩ : ∃ W, w.alloc (.cells #[.slice ea es.length ce, .slice ba bs.length cb] 27) = W := ⟨_, rfl⟩
  have hlt : w.heap.size < W.heap.size := by rw [← hW]; simp
  rw [hW] at hA hb
  have HA : Hid (W.heap[w.heap.size]? = some (.cells #[.slice ea es.length ce, .slice ba bs.length cb] 27 (0, 0))) := hA
  have HE : Hid (RE W ge es) := hE.below hb
  have HB : Hid (RB W gb bs) := hB.below hb
  have HBS : Hid (∀ b ∈ bs, b.x.size ≤ 1048576 ∧ b.k.size ≤ 1048576 ∧ b.q.size ≤ 1048576) := hbs
  have hml := block_lt_of_cell hm
  have HM : Hid (W.cell? ⟨0, 0, none⟩ = some (.int .i64 m)) := (hb.cell (p := ⟨0, 0, none⟩) hml).trans hm
  have hmW : 0 < W.heap.size := Nat.lt_of_lt_of_le hml hb.size
  have BOX : Hid (∀ w', Below W.heap.size W w' → w'.cell? ⟨w.heap.size, 0, none⟩ = some (.slice ea es.length ce) ∧ w'.cell? ⟨w.heap.size, 1, none⟩ = some (.slice ba bs.length cb)) := fun w' h => by
    have h1 := bstay HA.out h hlt
    exact ⟨bcell h1 rfl, bcell h1 rfl⟩
  have hro := ri.impl_routes es bs ge ce gb cb W hel hbl hes hbs HE.out HB.out ea ba hea hba
  have hky := fun W => ky.impl_key key W hkey
  obtain ⟨c0, c1⟩ := BOX.out W (Below.refl _ _)
  clear hE hB hm hbs hA hes
  go_enter Tryz.func6, Tryz.ntmps6
  go_wp2_with (go_at_call 16; fail)
  clear hW
  refine hro.mono ?_
  rintro e w1 ⟨⟨rb, rfl, hrb⟩, hb1⟩
  have hokr : okr es bs = rb := okr_of hrb
  have HRB : Hid (rb = true ↔ OkR es bs) := hrb
  have hbw1 : Below w.heap.size w w1 := hb.trans (hb1.mono hb.size)
  clear hro c0 c1 hrb
  cases rb with
  | false =>
    obtain ⟨h1, h2⟩ := ans_bad (es := es) (bs := bs) (x := x) (key := key) (by rw [hokr]; rfl)
    have HF : Hid (IR w (ansL es bs x key) (ansB es bs x key) (.returned (.tuple #[.slice none 0 0, .bool false])) w1) := by
      unfold Hid
      rw [h1, h2]
      exact ⟨_, rfl, hbw1, .inl ⟨rfl, rfl⟩⟩
    clear h1 h2 hokr
    go_wp2
    go_ret2
    exact HF.out
  | true =>
    have hk1 := hky w1
    obtain ⟨kg, hkg⟩ : ∃ kg, ky.good key = kg := ⟨_, rfl⟩
    rw [hkg] at hk1
    cases kg with
    | false =>
      obtain ⟨h1, h2⟩ := ans_bad (es := es) (bs := bs) (x := x) (key := key) (by rw [hokr, hkg]; rfl)
      have HF : Hid (IR w (ansL es bs x key) (ansB es bs x key) (.returned (.tuple #[.slice none 0 0, .bool false])) w1) := by
        unfold Hid
        rw [h1, h2]
        exact ⟨_, rfl, hbw1, .inl ⟨rfl, rfl⟩⟩
      clear h1 h2 hokr hkg
      go_wp2_with (go_at_call 26; refine hk1.mono ?_; rintro e w2 ⟨rfl, hw2⟩; obtain rfl := hw2)
      go_ret2
      exact HF.out
    | true =>
      have hgood : (okr es bs && ky.good key) = true := by rw [hokr, hkg]; rfl
      clear hokr hkg
      by_cases hxe : x = ⟨#[]⟩
      · obtain ⟨h1, h2⟩ := ans_self (es := es) (bs := bs) (key := key) hgood hxe
        have hq : (x.toList == ([] : List UInt8)) = true := by rw [hxe]; simp [ByteArray.toList_eq]
        have hcl := fun W => cl.clone key W (by omega)
        have HF : Hid (∀ w3, Below w1.heap.size w1 w3 → IR w (ansL es bs x key) (ansB es bs x key) (.returned (.tuple #[.slice (some ⟨w3.heap.size, 0, none⟩) 1 1, .bool true])) (w3.alloc (.cells #[.string key] 9))) := fun w3 h3 => by
          rw [h1, h2]
          have hbw3 := hbw1.trans (h3.mono hbw1.size)
          exact ⟨_, rfl, hbw3.alloc hbw3.size _, .inr ⟨w3.heap.size, 1, rfl, own1 w3 key _ hbw3.size⟩⟩
        clear h1 h2 hgood hxe
        go_wp2_with (first | (go_at_call 26; refine hk1.mono ?_; rintro e w2 ⟨rfl, hw2⟩; obtain rfl := hw2) | (go_at_call 27; refine (hcl _).mono ?_; rintro e w3 ⟨rfl, hb3⟩))
        go_ret2
        exact HF.out w3 hb3
      · have hq : (x.toList == ([] : List UInt8)) = false := rsr.emp_eq hxe
        have hex := exchange_of es bs ge ce gb cb x w1 hel hbl (HE.out.below hb1) (HB.out.below hb1) ea ba hea hba (HRB.out.1 rfl)
        have hokr2 : OkR es bs := HRB.out.1 rfl
        have hk2 : kindOf es x ≤ 2 := kind_le hokr2
        clear hokr2
        obtain ⟨c0, c1⟩ := BOX.out w1 hb1
        have t3 : True := trivial
        go_wp2_with (first | (go_at_call 26; have _t := t3; refine hk1.mono ?_; rintro e w2 ⟨rfl, hw2⟩; obtain rfl := hw2; clear t3 _t) | (go_at_call 28; fail))
        refine hex.mono ?_
        rintro e w3 ⟨hb3, ⟨hneg, rfl⟩ | ⟨hpos, v, rfl, hall⟩⟩
        · obtain ⟨h1, h2⟩ := ans_none (es := es) (bs := bs) (key := key) hgood hxe hneg
          have hbw3 := hbw1.trans (hb3.mono hbw1.size)
          have HF : Hid (IR w (ansL es bs x key) (ansB es bs x key) (.returned (.tuple #[.slice none 0 0, .bool false])) w3) := by
            unfold Hid
            rw [h1, h2]
            exact ⟨_, rfl, hbw3, .inl ⟨rfl, rfl⟩⟩
          clear h1 h2 hgood hxe hq hex c0 c1 hk1 hneg hk2
          go_wp2
          go_ret2
          exact HF.out
        · obtain ⟨h1, h2⟩ := ans_some (es := es) (bs := bs) (key := key) hgood hxe (by omega)
          have hbw3 := hbw1.trans (hb3.mono hbw1.size)
          rw [← go_qs] at h1
          have HL1 : Hid (ansL es bs x key = puts (go (kindOf es x) key (of x bs))) := h1
          have HL2 : Hid (ansB es bs x key = true) := h2
          obtain ⟨ao, cap, hv⟩ := hall.form
          subst hv
          have HROW : Hid (Row cB 3 w3 w3.heap.size ao (of x bs)) := hall.row
          have HSB : Hid (∀ b ∈ of x bs, b.x.size ≤ 1048576 ∧ b.k.size ≤ 1048576 ∧ b.q.size ≤ 1048576) := fun b hb => HBS.out b (List.mem_filter.1 hb).1
          have hlen : (of x bs).length ≤ 1048576 := Nat.le_trans (of_len x bs) hbl
          obtain ⟨kd, hkd⟩ : ∃ kd, kindOf es x = kd := ⟨_, rfl⟩
          obtain ⟨l, hl⟩ : ∃ l, of x bs = l := ⟨_, rfl⟩
          rw [hkd] at hpos hk2 HL1 ⊢
          rw [hl] at HROW HSB hlen HL1 ⊢
          have hmt := meth_bound kd (.slice ao l.length cap)
          have hbd := bound (.slice ao l.length cap)
          clear h1 h2 hgood hxe hq hex c0 c1 hk1 hall hkd hl
          have HS0 : Hid (Sg w3 (go kd key (l.take 0)) (.slice none 0 0) w3) := ⟨Below.refl _ _, .inl ⟨by simp [go], none, rfl⟩, fun _ => rfl⟩
          rcases HROW.out with hnil | ⟨rb, off, ha, hrl, hrc⟩
          · subst hnil
            have hmt0 := meth_bound kd (.slice ao 0 cap)
            have hbd0 := bound (.slice ao 0 cap)
            have hsn := fun W => shSortLaidS.slices_Sort_string_none none 0 W
            have hcn := fun W => shSortLaidS.slices_Compact_string_empty none 0 W
            have HF : Hid (IR w (ansL es bs x key) (ansB es bs x key) (.returned (.tuple #[.slice none 0 0, .bool true])) w3) := by
              unfold Hid
              rw [HL1.out, HL2.out]
              exact ⟨_, rfl, hbw3, .inl ⟨by simp [go, puts], rfl⟩⟩
            clear HS0 HROW HSB hlen hmt hbd
            go_wp2_with (go_at_call 128; refine (hbd0 _).mono ?_; rintro e w4 ⟨rfl, hw4⟩; obtain rfl := hw4.symm)
            clear hmt0 hbd0
            refine wp_loop_rounds 1 ?_
            rw [rounds_succ]
            go_wp2_with (first | (go_at_call 30; refine (hsn _).mono ?_; rintro e w8 ⟨rfl, hw8⟩; obtain rfl := hw8.symm) | (go_at_call 31; refine (hcn _).mono ?_; rintro e w9 ⟨rfl, hw9⟩; obtain rfl := hw9.symm))
            go_ret2
            exact HF.out
          subst ha
          have HRC : Hid (∀ (i : Nat) (e : Bi), l[i]? = some e → ∀ (j : Nat) (v : Value), (cB e)[j]? = some v → w3.cell? ⟨rb, off + i * 3 + j, none⟩ = some v) := hrc
          clear hrc HROW
          go_wp2_with (go_at_call 128; refine (hbd _).mono ?_; rintro e w4 ⟨rfl, hw4⟩; obtain rfl := hw4.symm)
          clear hmt hbd
          go_loopw [10, 37] (fun v y wr => ∃ k : Nat, k ≤ l.length ∧ y = .int .i64 k ∧ Hid (Sg w3 (go kd key (l.take k)) v wr)) (fun _ y _ => l.length - (intOf y).toNat)
          case atStart => exact ⟨0, Nat.zero_le _, rfl, HS0⟩
          case round =>
            obtain ⟨k, hk, rfl, hst⟩ := hrel
            clear HS0
            have hbel := hst.out.bel
            have hbsz := hbel.size
            by_cases hkl : k < l.length
            · have i2 : (k : Int) < (l.length : Int) := by omega
              have HG : Hid (l[k]? = some l[k]) := List.getElem?_eq_getElem hkl
              have hsz := HSB.out l[k] (List.getElem_mem hkl)
              obtain ⟨⟨bx, bk, bq⟩, he⟩ : ∃ e, l[k] = e := ⟨_, rfl⟩
              rw [he] at HG hsz
              have f0 : wr.cell? ⟨rb, off + k * 3, none⟩ = some (.string bx) := (hbel.cell (p := ⟨rb, off + k * 3, none⟩) hrl).trans (HRC.out k _ HG.out 0 _ rfl)
              have f1 : wr.cell? ⟨rb, off + k * 3 + 1, none⟩ = some (.string bk) := (hbel.cell (p := ⟨rb, off + k * 3 + 1, none⟩) hrl).trans (HRC.out k _ HG.out 1 _ rfl)
              have f2 : wr.cell? ⟨rb, off + k * 3 + 2, none⟩ = some (.string bq) := (hbel.cell (p := ⟨rb, off + k * 3 + 2, none⟩) hrl).trans (HRC.out k _ HG.out 2 _ rfl)
              have hal : Below wr.heap.size wr (wr.alloc (.cells #[.string bx, .string bk, .string bq] 45)) := (Below.refl _ _).alloc (Nat.le_refl _) _
              have hnw := bnew wr #[.string bx, .string bk, .string bq] 45
              have hX3 : Below w3.heap.size w3 (wr.alloc (.cells #[.string bx, .string bk, .string bq] 45)) := hbel.trans (hal.mono hbsz)
              have hW3 : Below W.heap.size W w3 := hb1.trans (hb3.mono hb1.size)
              have hmX := ((hW3.trans (hX3.mono hW3.size)).cell (p := ⟨0, 0, none⟩) hmW).trans HM.out
              have hgb := goes_by kd ⟨hpos, hk2⟩ (.slice (some ⟨rb, off, none⟩) l.length cap) ⟨bx, bk, bq⟩ key m _ hsz.2.1 hkey hmX
              obtain ⟨X, hX⟩ : ∃ X, wr.alloc (.cells #[.string bx, .string bk, .string bq] 45) = X := ⟨_, rfl⟩
              have hXl : wr.heap.size < X.heap.size := by rw [← hX]; simp
              rw [hX] at hal hnw hX3 hgb
              have HNW : Hid (X.heap[wr.heap.size]? = some (.cells #[.string bx, .string bk, .string bq] 45 (0, 0))) := hnw
              have x0 : X.cell? ⟨wr.heap.size, 0, none⟩ = some (.string bx) := bcell hnw rfl
              have x1 : X.cell? ⟨wr.heap.size, 1, none⟩ = some (.string bk) := bcell hnw rfl
              have x2 : X.cell? ⟨wr.heap.size, 2, none⟩ = some (.string bq) := bcell hnw rfl
              have hq1 := hsz.2.2
              obtain ⟨gv, hgv⟩ : ∃ gv, goes kd ⟨bx, bk, bq⟩ key = gv := ⟨_, rfl⟩
              rw [hgv] at hgb
              have HST : Hid (Sg w3 (go kd key (l.take k)) u10 X) := hst.out.on hal
              clear he hnw hmX hsz hst
              cases gv with
              | false =>
                have HN : Hid (∀ w5, Below X.heap.size X w5 → Sg w3 (go kd key (l.take (k + 1))) u10 w5) := fun w5 h5 => by
                  rw [go_no HG.out hgv]
                  exact HST.out.on h5
                clear hgv
                go_wp2_with (go_at_call 29; refine hgb.mono ?_; rintro e w5 ⟨rfl, hb5⟩)
                try rw [← hqa]
                try rw [← hqb]
                go_roundw
                case rel => exact ⟨k + 1, by omega, by go_num, HN.out w5 hb5⟩
                case measure => simp [intOf]; omega
              | true =>
                have HQ : Hid (go kd key (l.take (k + 1)) = go kd key (l.take k) ++ [bq]) := go_yes HG.out hgv
                clear hgv
                go_wp2_with (go_at_call 29; fail)
                clear hX
                refine hgb.mono ?_
                rintro e w5 ⟨rfl, hb5⟩
                have g2 : w5.cell? ⟨wr.heap.size, 2, none⟩ = some (.string bq) := bcell (bstay HNW.out hb5 hXl) rfl
                have hcl := cl.clone bq w5 (by omega)
                clear x0 x1 x2 hgb
                go_wp2_with (go_at_call 27; fail)
                refine hcl.mono ?_
                rintro e w6 ⟨rfl, hb6⟩
                have hal6 : Below w6.heap.size w6 (w6.alloc (.cells #[.string bq] 9)) := (Below.refl _ _).alloc (Nat.le_refl _) _
                have hX6 : Below X.heap.size X (w6.alloc (.cells #[.string bq] 9)) := (hb5.trans (hb6.mono hb5.size)).trans (hal6.mono (Nat.le_trans hb5.size hb6.size))
                have hst6 := HST.out.on hX6
                have hln : (go kd key (l.take k)).length ≤ 1048576 := by have h2 := go_len kd key (l.take k); rw [List.length_take] at h2; omega
                obtain ⟨v', w', hrun, hall', hbw'⟩ := app_S bq hst6.al hst6.bel.size hln (bnew w6 _ _) 30
                have HRUN : Hid ((Builtin.append_ #[30, 30] 30 #[u10, .slice (some ⟨w6.heap.size, 0, none⟩) 1 1]).run Tryz.prog (w6.alloc (.cells #[.string bq] 9)) = .ok v' w') := hrun
                have HN : Hid (Sg w3 (go kd key (l.take (k + 1))) v' w') := by
                  unfold Hid
                  rw [HQ.out]
                  exact ⟨hst6.bel.trans hbw', hall', fun h => by simp at h⟩
                clear hrun hall' hbw' hst6 hcl HST g2
                go_wp2_with (at_builtin; refine cpr.wpList_append_run rfl _ _ 30 30 rfl _ _ _ rfl rfl HRUN.out ?_)
                go_wp2
                try rw [← hqa]
                try rw [← hqb]
                go_roundw
                case rel => exact ⟨k + 1, by omega, by go_num, HN⟩
                case measure => simp [intOf]; omega
            · obtain rfl : k = l.length := by omega
              rw [List.take_length] at hst
              have hln : (go kd key l).length ≤ 1048576 := Nat.le_trans (go_len kd key l) hlen
              obtain ⟨ql, hql⟩ : ∃ ql, go kd key l = ql := ⟨_, rfl⟩
              rw [hql] at hst hln HL1
              have hbwr : Below w.heap.size w wr := hbw3.trans (hbel.mono hbw3.size)
              rcases hst.out.al with ⟨hz, _⟩ | ⟨g, cp, hv, ho⟩
              · have hv := hst.out.nl hz
                have hsn := fun W => shSortLaidS.slices_Sort_string_none none 0 W
                have hcn := fun W => shSortLaidS.slices_Compact_string_empty none 0 W
                have HF : Hid (IR w (ansL es bs x key) (ansB es bs x key) (.returned (.tuple #[.slice none 0 0, .bool true])) wr) := by
                  unfold Hid
                  rw [HL1.out, HL2.out, hz]
                  exact ⟨_, rfl, hbwr, .inl ⟨by simp [puts], rfl⟩⟩
                clear hz
                subst hv
                clear hst hql
                go_wp2_with (first | (go_at_call 30; refine (hsn _).mono ?_; rintro e w8 ⟨rfl, hw8⟩; obtain rfl := hw8.symm) | (go_at_call 31; refine (hcn _).mono ?_; rintro e w9 ⟨rfl, hw9⟩; obtain rfl := hw9.symm))
                go_ret2
                exact HF.out
              · subst hv
                have hso := sort_texts ql g cp w3.heap.size wr ho hln hbsz
                clear hst hql ho
                go_wp2_with (go_at_call 30; fail)
                refine hso.mono ?_
                rintro e w8 ⟨rfl, ho8, hb8⟩
                have hco := compact_texts ql g cp w3.heap.size w8 ho8 hln
                have hb8w : Below w.heap.size w w8 := hbwr.trans (hb8.mono hbw3.size)
                clear hso ho8
                go_wp2_with (go_at_call 31; fail)
                refine hco.mono ?_
                rintro e w9 ⟨rfl, ho9, hb9⟩
                have HF : Hid (IR w (ansL es bs x key) (ansB es bs x key) (.returned (.tuple #[.slice (some ⟨g, 0, none⟩) (puts ql).length cp, .bool true])) w9) := by
                  unfold Hid
                  rw [HL1.out, HL2.out]
                  exact ⟨_, rfl, hb8w.trans (hb9.mono hbw3.size), .inr ⟨g, cp, rfl, own_mono ho9 hbw3.size⟩⟩
                clear hco ho9
                go_wp2
                go_ret2
                exact HF.out
end Go.Proofs.YtnooibeohdfcmaaGreatDoor.rti

/- slices.Insert of one exchange into a row of exchanges that has no room: the same row with it in its place, in a row of its own. -/
namespace Go.Proofs.YtnooibeohdfcmaaGreatDoor.inse
open Go.ChangeShapes Go.WideShapes Go.ChangeAt Go.RowKit Go.Proofs.YtnooibeohdfcmaaGreatDoor.rr Go.Proofs.YtnooibeohdfcmaaGreatDoor.fl
set_option linter.unusedVariables false

def cX (e : Ex) : List Value := [.string e.n, .int .i64 e.k]
theorem cX_len (e : Ex) : (cX e).length = 2 := rfl
theorem infoX : ∃ i0, Tryz.prog.info? 75 = some i0 ∧ i0.zero = some (.agg #[.string ByteArray.empty, .int .i64 0]) ∧ i0.size = 2 ∧ i0.bytes = 24 := by
  have h : (Tryz.prog.info? 75).map (fun i => (i.zero, i.size, i.bytes)) = some (some (.agg #[.string ByteArray.empty, .int .i64 0]), 2, 24) := by kernel_rfl
  cases hh : Tryz.prog.info? 75 with
  | none => rw [hh] at h; cases h
  | some i => rw [hh] at h; simp at h; exact ⟨i, rfl, h.1, h.2.1, h.2.2⟩
theorem own_form {w : World} {B n : Nat} {U : TypeId} {s : Nat} {v : Value} {xs : List Value} (h : w.ownsRow B U s v (n + 1) xs) : ∃ g cap, v = .slice (some ⟨g, 0, none⟩) (n + 1) cap := by
  obtain ⟨_, ⟨rfl, h0⟩ | ⟨g, cap, cur, rfl, _⟩⟩ := h
  · omega
  · exact ⟨g, cap, rfl⟩
theorem owns_at {w : World} {B n s g c : Nat} {U : TypeId} {xs : List Value} (h : w.ownsRow B U s (.slice (some ⟨g, 0, none⟩) n c) n xs) : B ≤ g ∧ ∃ cur, w.heap[g]? = some (.cells cur U (0, 0)) := by
  obtain ⟨_, ⟨h1, _⟩ | ⟨g', cap', cur, h1, h2, h3, _⟩⟩ := h
  · cases h1
  cases h1
  exact ⟨h2, cur, h3⟩
theorem add_at (g o j : Nat) : (⟨g, o, none⟩ : Addr).add j = ⟨g, o + j, none⟩ := by unfold Addr.add; split <;> simp_all
theorem oneX (ms : List Ex) : ∀ u ∈ ms.flatMap cX, u.oneCell' = true := fun u hu => by
  obtain ⟨e, _, he⟩ := List.mem_flatMap.1 hu
  simp [cX] at he
  rcases he with rfl | rfl <;> rfl
/-- the cells of an owned row -/
theorem owns_cells {α : Type} {c : α → List Value} {n B g cap : Nat} {U : TypeId} {l : List α} {w : World} (hn : ∀ e, (c e).length = n) (h : w.ownsRow B U n (.slice (some ⟨g, 0, none⟩) l.length cap) l.length (l.flatMap c)) : ∀ (j : Nat) (u : Value), (l.flatMap c)[j]? = some u → w.cell? ⟨g, j, none⟩ = some u := fun j u hu => by
  obtain ⟨_, ⟨h1, _⟩ | ⟨g', cap', cur, h1, h2, h3, h4, h5, h6, h7⟩⟩ := h
  · cases h1
  cases h1
  rw [← h7] at hu
  have hlt := (List.getElem?_eq_some_iff.1 hu).1
  rw [List.length_take] at hlt
  rw [List.getElem?_take_of_lt (by omega)] at hu
  exact bcell h3 (by simpa using hu)
theorem flat_take {α : Type} {c : α → List Value} (l : List α) (i : Nat) : (l.take i).flatMap c ++ (l.drop i).flatMap c = l.flatMap c := by rw [← List.flatMap_append, List.take_append_drop]
/-- two copies into a row: what was ahead, what is put in, what stood from there on -/
theorem two_copies {xs v cs rest : List Value} {o1 o2 : Nat} (h1 : xs.length = o1) (h2 : o1 + v.length = o2) (hr : v.length + cs.length ≤ rest.length) :
    (((xs ++ rest).take o1 ++ v ++ (xs ++ rest).drop (o1 + v.length)).take o2 ++ cs ++ ((xs ++ rest).take o1 ++ v ++ (xs ++ rest).drop (o1 + v.length)).drop (o2 + cs.length)) = xs ++ v ++ cs ++ rest.drop (v.length + cs.length) := by
  subst h1
  subst h2
  rw [List.take_left, List.drop_append, List.drop_eq_nil_of_le (by omega), List.nil_append, show xs.length + v.length - xs.length = v.length by omega]
  have e1 : (xs ++ v).length = xs.length + v.length := List.length_append
  rw [← e1, List.take_left, List.drop_append, List.drop_eq_nil_of_le (by omega), List.nil_append, List.drop_drop]
  congr 2
  omega
/-- the row behind it is owned -/
theorem owns_new {B g cap n : Nat} {U : TypeId} {w : World} {cur : Array Value} {ys tl : List Value} (hg : w.heap[g]? = some (.cells cur U (0, 0))) (hB : B ≤ g) (hc : cur.toList = ys ++ tl) (hy : ys.length = n * 2) (hn : n ≤ cap) (hm : cap ≤ maxLen) (hs : cur.size = cap * 2) : w.ownsRow B U 2 (.slice (some ⟨g, 0, none⟩) n cap) n ys :=
  ⟨hy, .inr ⟨g, cap, cur, rfl, hB, hg, hn, hm, hs, by rw [hc, ← hy, List.take_left]⟩⟩

def ws (b g i n G : Nat) : List (Nat × Value) := [(46, .slice (some ⟨b, 0, none⟩) (n + 1) G), (47, .int .i64 i), (48, .int .i64 1), (49, .int .i64 ((i : Int) + 1)), (50, .slice (some ⟨b, (i + 1) * 2, none⟩) (n - i) (G - (i + 1))), (51, .slice (some ⟨g, 0, none⟩) n n), (52, .int .i64 i), (53, .slice (some ⟨g, i * 2, none⟩) (n - i) (n - i)), (54, .int .i64 ((n - i : Nat) : Int))]

set_option maxRecDepth 100000 in
set_option maxHeartbeats 4000000 in
theorem insert_mid (l : List Ex) (g i B : Nat) (mn : ByteArray) (mo : Int) (ga : Nat) (w : World) (hi : i < l.length) (hl : l.length ≤ 1048576) (hB : B ≤ w.heap.size) (ho : w.ownsRow B 75 2 (.slice (some ⟨g, 0, none⟩) l.length l.length) l.length (l.flatMap cX)) (ha : w.heap[ga]? = some (.cells #[.string mn, .int .i64 mo] 75 (0, 0))) :
    Calls Tryz.prog 47 #[.slice (some ⟨g, 0, none⟩) l.length l.length, .int .i64 i, .slice (some ⟨ga, 0, none⟩) 1 1] w fun r w' => ∃ g2 c2, r = .returned (.slice (some ⟨g2, 0, none⟩) (l.length + 1) c2) ∧ w'.ownsRow B 75 2 (.slice (some ⟨g2, 0, none⟩) (l.length + 1) c2) (l.length + 1) ((l.take i ++ ⟨mn, mo⟩ :: l.drop i).flatMap cX) ∧ Below w.heap.size w w' := by
  obtain ⟨i1, ki, kz0, kz1, kz2⟩ := infoX
  have hcells := owns_cells cX_len ho
  have hgl : g < w.heap.size := by obtain ⟨_, cur, hcur⟩ := owns_at ho; exact (Array.getElem?_eq_some_iff.1 hcur).1
  have hgal := (Array.getElem?_eq_some_iff.1 ha).1
  obtain ⟨n, hn⟩ : ∃ n, l.length = n := ⟨_, rfl⟩
  have hxl : ((l.take i).flatMap cX).length = i * 2 := by rw [flat_len cX_len, List.length_take]; congr 1; omega
  have hdl : ((l.drop i).flatMap cX).length = (n - i) * 2 := by rw [flat_len cX_len, List.length_drop, hn]
  have hxc : ∀ (j : Nat) (u : Value), ((l.take i).flatMap cX)[j]? = some u → w.cell? ((⟨g, 0, none⟩ : Addr).add j) = some u := fun j u hu => by
    rw [add_at, Nat.zero_add]
    refine hcells j u ?_
    rw [← flat_take l i, List.getElem?_append_left (List.getElem?_eq_some_iff.1 hu).1]
    exact hu
  have hdc : ∀ (j : Nat) (u : Value), ((l.drop i).flatMap cX)[j]? = some u → w.cell? ((⟨g, i * 2, none⟩ : Addr).add j) = some u := fun j u hu => by
    rw [add_at]
    refine hcells (i * 2 + j) u ?_
    rw [← flat_take l i, List.getElem?_append_right (by rw [hxl]; omega), hxl, show i * 2 + j - i * 2 = j by omega]
    exact hu
  rw [hn] at hi hl
  simp only [hn]
  have hz := fun ty => az.run_append_zeros (P := Tryz.prog) w 24 3 ty 75 i1 _ Tryz.underlying24 Tryz.underlying3 ki kz0 ⟨g, 0, none⟩ i n ((l.take i).flatMap cX) (by rw [hxl, kz1]) hxc (n + 1 - i) (by rw [kz1]; omega) (by omega) (by omega) (by rw [kz2]; omega) (by rw [kz2]; exact growslice_fits_wide (by omega) (by omega))
  rw [show i + (n + 1 - i) = n + 1 by omega] at hz
  have hG1 := grownCap_ge w (n + 1) n 75
  have hG2 := grownCap_le_maxLen w (n + 1) n 75 (by unfold maxLen; omega)
  obtain ⟨G, hG⟩ : ∃ G, grownCap w (n + 1) n 75 = G := ⟨_, rfl⟩
  rw [hG] at hz hG1 hG2
  obtain ⟨rest, hrest⟩ : ∃ rest : List Value, rest.length = (G - i) * 2 ∧ ∀ zc : Array Value, zc = (Value.agg #[.string ByteArray.empty, .int .i64 0]).cells → (((l.take i).flatMap cX).toArray ++ Builtin.zeroCells zc (n + 1 - i) ++ Builtin.zeroCells zc (G - (n + 1))) = (((l.take i).flatMap cX) ++ rest).toArray := by
    refine ⟨(Builtin.zeroCells (Value.agg #[.string ByteArray.empty, .int .i64 0]).cells (n + 1 - i) ++ Builtin.zeroCells (Value.agg #[.string ByteArray.empty, .int .i64 0]).cells (G - (n + 1))).toList, ?_, ?_⟩
    · simp [size_zeroCells, Value.cells]; omega
    · rintro zc rfl; simp
  have hrow := hrest.2 _ rfl
  rw [hrow] at hz
  have hk : (n : Int) + 1 - (i : Int) = ((n + 1 - i : Nat) : Int) := by omega
  rw [← hk] at hz
  obtain ⟨xs, hxs⟩ : ∃ xs, (l.take i).flatMap cX = xs := ⟨_, rfl⟩
  obtain ⟨cs, hcs⟩ : ∃ cs, (l.drop i).flatMap cX = cs := ⟨_, rfl⟩
  rw [hxs] at hz hxl
  rw [hcs] at hdl hdc
  have hfl : (l.take i ++ ⟨mn, mo⟩ :: l.drop i).flatMap cX = xs ++ [Value.string mn, Value.int .i64 mo] ++ cs := by rw [← hxs, ← hcs]; simp [cX]
  rw [hfl]
  have hone : ∀ u ∈ cs, u.oneCell' = true := by rw [← hcs]; exact oneX _
  have hg1 : (w.drew.alloc (.cells (xs ++ rest).toArray 75)).heap[w.heap.size]? = some (.cells (xs ++ rest).toArray 75 (0, 0)) := bnew w.drew _ _
  have hb1 : Below w.heap.size w (w.drew.alloc (.cells (xs ++ rest).toArray 75)) := (Below.refl _ w).drew.alloc (Nat.le_refl _) _
  obtain ⟨W1, hW1⟩ : ∃ W1, w.drew.alloc (.cells (xs ++ rest).toArray 75) = W1 := ⟨_, rfl⟩
  rw [hW1] at hz hg1 hb1
  have hav := bstay ha hb1 hgal
  have hrl := hrest.1
  have hmin1 : Nat.min 1 (n + 1 - i) = 1 := Nat.min_eq_left (by omega)
  have hmin2 : Nat.min (n - i) (n - i) = n - i := Nat.min_self _
  have hc1 := fun ty => cpr.run_copy_rows (P := Tryz.prog) W1 24 24 ty 75 i1 w.heap.size (i * 2) (n + 1 - i) (G - i) ⟨ga, 0, none⟩ 1 1 (xs ++ rest).toArray 75 [Value.string mn, Value.int .i64 mo] Tryz.underlying24 ki hg1 (by rw [kz1, hmin1]; rfl) (fun j u hu => by
    rw [add_at, Nat.zero_add]
    match j, hu with
    | 0, hu => cases hu; exact bcell hav rfl
    | 1, hu => cases hu; exact bcell hav rfl
    | j + 2, hu => simp at hu) (by simp; omega) (by simp [Value.oneCell'])
  rw [hmin1] at hc1
  simp only [show ([Value.string mn, Value.int .i64 mo] : List Value).length = 2 from rfl] at hc1
  obtain ⟨A1, hA1⟩ : ∃ A1 : List Value, (xs ++ rest).take (i * 2) ++ [Value.string mn, Value.int .i64 mo] ++ (xs ++ rest).drop (i * 2 + 2) = A1 := ⟨_, rfl⟩
  rw [hA1] at hc1
  have hA1l : A1.length = i * 2 + (G - i) * 2 := by rw [← hA1]; simp; omega
  have hg2 : (W1.setRow w.heap.size A1.toArray).heap[w.heap.size]? = some (.cells A1.toArray 75 (0, 0)) := setRow_heap W1 w.heap.size _ _ 75 _ hg1
  have hb2 : Below w.heap.size w (W1.setRow w.heap.size A1.toArray) := below_setRow hb1 (Nat.le_refl _) _
  obtain ⟨W2, hW2⟩ : ∃ W2, W1.setRow w.heap.size A1.toArray = W2 := ⟨_, rfl⟩
  rw [hW2] at hc1 hg2 hb2
  have hc2 := fun ty => cpr.run_copy_rows (P := Tryz.prog) W2.drew 24 24 ty 75 i1 w.heap.size ((i + 1) * 2) (n - i) (G - (i + 1)) ⟨g, i * 2, none⟩ (n - i) (n - i) A1.toArray 75 cs Tryz.underlying24 ki hg2 (by rw [kz1, hmin2, hdl]) (fun j u hu => by
    have := hdc j u hu
    rw [add_at] at this ⊢
    exact (hb2.drew.cell (p := ⟨g, i * 2 + j, none⟩) hgl).trans this) (by rw [hdl]; simp; omega) hone
  rw [hmin2] at hc2
  have hc2 := fun ty => (hc2 ty).trans rfl
  have htwo : A1.take ((i + 1) * 2) ++ cs ++ A1.drop ((i + 1) * 2 + cs.length) = xs ++ [Value.string mn, Value.int .i64 mo] ++ cs ++ rest.drop (2 + cs.length) := by
    rw [← hA1]
    exact two_copies (v := [Value.string mn, Value.int .i64 mo]) hxl (by show i * 2 + 2 = (i + 1) * 2; omega) (by show 2 + cs.length ≤ rest.length; omega)
  rw [htwo] at hc2
  have hg3 : (W2.drew.setRow w.heap.size (xs ++ [Value.string mn, Value.int .i64 mo] ++ cs ++ rest.drop (2 + cs.length)).toArray).heap[w.heap.size]? = some (.cells (xs ++ [Value.string mn, Value.int .i64 mo] ++ cs ++ rest.drop (2 + cs.length)).toArray 75 (0, 0)) := setRow_heap W2.drew w.heap.size _ _ 75 _ hg2
  have hb3 : Below w.heap.size w (W2.drew.setRow w.heap.size (xs ++ [Value.string mn, Value.int .i64 mo] ++ cs ++ rest.drop (2 + cs.length)).toArray) := below_setRow hb2.drew (Nat.le_refl _) _
  have hown : (W2.drew.setRow w.heap.size (xs ++ [Value.string mn, Value.int .i64 mo] ++ cs ++ rest.drop (2 + cs.length)).toArray).ownsRow B 75 2 (.slice (some ⟨w.heap.size, 0, none⟩) (n + 1) G) (n + 1) (xs ++ [Value.string mn, Value.int .i64 mo] ++ cs) :=
    owns_new (tl := rest.drop (2 + cs.length)) hg3 hB (by simp) (by simp; omega) hG1 hG2 (by simp; omega)
  obtain ⟨W3, hW3⟩ : ∃ W3, W2.drew.setRow w.heap.size (xs ++ [Value.string mn, Value.int .i64 mo] ++ cs ++ rest.drop (2 + cs.length)).toArray = W3 := ⟨_, rfl⟩
  rw [hW3] at hc2 hb3 hown
  have HB3 : Hid (Below w.heap.size w W3) := hb3
  have HOWN : Hid (W3.ownsRow B 75 2 (.slice (some ⟨w.heap.size, 0, none⟩) (n + 1) G) (n + 1) (xs ++ [Value.string mn, Value.int .i64 mo] ++ cs)) := hown
  have i9 : IntKind.i64.wrap ((i : Int) + 1) = (i : Int) + 1 := by rw [IntKind.wrap_i64]; omega
  have r1 : i ≤ n := by omega
  have r2 : (0 : Int) ≤ (i : Int) + 1 := by omega
  have r3 : ¬ G = i + 1 := by omega
  have r4 : ¬ n = i := by omega
  have q1 : ¬ (i : Int) = (n : Int) := by omega
  have q2 : i < G := by omega
  have q3 : i + 1 < G := by omega
  have q4 : (n : Int) < (n : Int) + 1 := by omega
  have q5 : n - i ≠ 0 := by omega
  clear hcells hxc hdc ho ha hrest hrow hav hg1 hg2 hg3 hb1 hb2 hb3 hown hA1 htwo hW1 hW2 hW3 hone hfl hxs hcs hk hG
  go_enter Tryz.func47, Tryz.ntmps47
  go_wp2_with (at_builtin; first | refine cpr.wpList_append_run rfl _ _ 24 3 rfl _ _ _ rfl rfl (hz _) ?_ | refine cpr.wpList_copy_run rfl _ _ 24 24 rfl _ _ _ rfl rfl (hc1 _) ?_)
  refine dk.region_sets (ws w.heap.size g i n G) [46, 47, 48, 49, 50, 51, 52, 53, 54] (dk.Cl (fun b W => W = if b then W3 else W2.drew) 8) (by kernel_rfl) (by kernel_rfl) rfl (by kernel_rfl) rfl ?each ?fin
  case each =>
    refine ⟨dk.q (by decide) (.slice (some ⟨w.heap.size, 0, none⟩) (n + 1) G) (by rintro _ ⟨⟩; exact dk.sets_on _ (by simp) _ rfl) (fun b W h => by simp [execOp, go_sem, Act.eval, dk.sets_get, ws, List.lookup]), ?_⟩
    refine ⟨dk.q (by decide) (.int .i64 i) (by rintro _ ⟨⟩; exact dk.sets_on _ (by simp) _ rfl) (fun b W h => by simp [execOp, go_sem, Act.eval, dk.sets_get, ws, List.lookup]), ?_⟩
    refine ⟨dk.q (by decide) (.int .i64 1) (by rintro _ ⟨⟩; exact dk.sets_on _ (by simp) _ rfl) (fun b W h => by simp [execOp, go_sem, Act.eval, dk.sets_get, ws, List.lookup]), ?_⟩
    refine ⟨dk.q (by decide) (.int .i64 ((i : Int) + 1)) (by rintro _ ⟨⟩; exact dk.sets_on _ (by simp) _ rfl) (fun b W h => by simp [execOp, go_sem, Act.eval, dk.sets_get, ws, List.lookup, i9]), ?_⟩
    refine ⟨dk.q (by decide) (.slice (some ⟨w.heap.size, (i + 1) * 2, none⟩) (n - i) (G - (i + 1))) (by rintro _ ⟨⟩; exact dk.sets_on _ (by simp) _ rfl) (fun b W h => by simp [execOp, go_sem, Act.eval, dk.sets_get, ws, List.lookup, r1, r2, r3]), ?_⟩
    refine ⟨dk.q (by decide) (.slice (some ⟨g, 0, none⟩) n n) (by rintro _ ⟨⟩; exact dk.sets_on _ (by simp) _ rfl) (fun b W h => by simp [execOp, go_sem, Act.eval, dk.sets_get, ws, List.lookup]), ?_⟩
    refine ⟨dk.q (by decide) (.int .i64 i) (by rintro _ ⟨⟩; exact dk.sets_on _ (by simp) _ rfl) (fun b W h => by simp [execOp, go_sem, Act.eval, dk.sets_get, ws, List.lookup]), ?_⟩
    refine ⟨dk.q (by decide) (.slice (some ⟨g, i * 2, none⟩) (n - i) (n - i)) (by rintro _ ⟨⟩; exact dk.sets_on _ (by simp) _ rfl) (fun b W h => by simp [execOp, go_sem, Act.eval, dk.sets_get, ws, List.lookup, r1, r4]), ?_⟩
    refine ⟨cpr.lastv (.int .i64 ((n - i : Nat) : Int)) (by rintro _ ⟨⟩; exact dk.sets_on _ (by simp) _ rfl) (fun W h => ?_), trivial⟩
    obtain rfl : W = W2.drew := h
    refine ⟨W3, ?_, rfl⟩
    simp [execOp, resolve, invoke, builtin, Act.eval, dk.sets_get, ws, List.lookup, hc2]
    rfl
  case fin =>
    intro L W hL hC
    obtain rfl : W = W3 := by
      have h8 := hL 8 (by decide)
      unfold dk.Cl at hC
      rw [h8] at hC
      exact hC
    simp only [dk.sets, ws]
    go_wp2
    go_ret
    exact ⟨_, _, rfl, HOWN.out, HB3.out⟩
set_option maxRecDepth 100000 in
set_option maxHeartbeats 4000000 in
theorem insert_end (l : List Ex) (g B : Nat) (mn : ByteArray) (mo : Int) (ga : Nat) (w : World) (hl : l.length ≤ 1048576) (hB : B ≤ w.heap.size) (ho : w.ownsRow B 75 2 (.slice (some ⟨g, 0, none⟩) l.length l.length) l.length (l.flatMap cX)) (ha : w.heap[ga]? = some (.cells #[.string mn, .int .i64 mo] 75 (0, 0))) :
    Calls Tryz.prog 47 #[.slice (some ⟨g, 0, none⟩) l.length l.length, .int .i64 l.length, .slice (some ⟨ga, 0, none⟩) 1 1] w fun r w' => ∃ g2 c2, r = .returned (.slice (some ⟨g2, 0, none⟩) (l.length + 1) c2) ∧ w'.ownsRow B 75 2 (.slice (some ⟨g2, 0, none⟩) (l.length + 1) c2) (l.length + 1) ((l ++ [(⟨mn, mo⟩ : Ex)]).flatMap cX) ∧ w.grownBy w' (some g) := by
  obtain ⟨i1, ki, kz0, kz1, kz2⟩ := infoX
  have hfl : (l ++ [(⟨mn, mo⟩ : Ex)]).flatMap cX = l.flatMap cX ++ [Value.string mn, Value.int .i64 mo] := by rw [List.flatMap_append]; simp [cX]
  rw [hfl]
  have hnw : ∀ (j : Nat) (u : Value), [Value.string mn, Value.int .i64 mo][j]? = some u → w.cell? ((⟨ga, 0, none⟩ : Addr).add j) = some u := fun j u hu => by
    rw [add_at, Nat.zero_add]
    match j, hu with
    | 0, hu => cases hu; exact bcell ha rfl
    | 1, hu => cases hu; exact bcell ha rfl
    | j + 2, hu => simp at hu
  clear hfl ha
  go_enter Tryz.func47, Tryz.ntmps47
  go_wp2_with (at_builtin; refine wpList_append_own _ rfl _ _ 24 rfl B 75 i1 (.agg #[.string ByteArray.empty, .int .i64 0]) 2 24 Tryz.underlying24 ki kz0 kz1 kz2 rfl (by decide) _ _ _ rfl ho ⟨ga, 0, none⟩ 1 1 [Value.string mn, Value.int .i64 mo] rfl rfl hnw (by simp [Value.oneCell']) (by unfold maxLen; omega) (by omega) hB ?_)
  intro v' w' hown hgrow _
  obtain ⟨g2, c2, rfl⟩ := own_form hown
  have HO : Hid (w'.ownsRow B 75 2 (.slice (some ⟨g2, 0, none⟩) (l.length + 1) c2) (l.length + 1) (l.flatMap cX ++ [Value.string mn, Value.int .i64 mo])) := hown
  have HG : Hid (w.grownBy w' (some g)) := hgrow
  clear hown hgrow ho hnw
  go_wp2
  go_ret
  exact ⟨_, _, rfl, HO.out, HG.out⟩
/-- either way -/
theorem insert_exchange (l : List Ex) (g i B : Nat) (mn : ByteArray) (mo : Int) (ga : Nat) (w : World) (hi : i ≤ l.length) (hl : l.length ≤ 1048576) (hB : B ≤ w.heap.size) (ho : w.ownsRow B 75 2 (.slice (some ⟨g, 0, none⟩) l.length l.length) l.length (l.flatMap cX)) (ha : w.heap[ga]? = some (.cells #[.string mn, .int .i64 mo] 75 (0, 0))) :
    Calls Tryz.prog 47 #[.slice (some ⟨g, 0, none⟩) l.length l.length, .int .i64 i, .slice (some ⟨ga, 0, none⟩) 1 1] w fun r w' => ∃ g2 c2, r = .returned (.slice (some ⟨g2, 0, none⟩) (l.length + 1) c2) ∧ w'.ownsRow B 75 2 (.slice (some ⟨g2, 0, none⟩) (l.length + 1) c2) (l.length + 1) ((l.take i ++ ⟨mn, mo⟩ :: l.drop i).flatMap cX) ∧ w.grownBy w' (some g) := by
  by_cases h : i < l.length
  · exact (insert_mid l g i B mn mo ga w h hl hB ho ha).mono fun r w' ⟨g2, c2, h1, h2, h3⟩ => ⟨g2, c2, h1, h2, ⟨h3.os, h3.tape, h3.output, h3.size, fun k hk _ => h3.block k hk⟩⟩
  · obtain rfl : i = l.length := by omega
    rw [List.take_length, List.drop_length]
    exact insert_end l g B mn mo ga w hl hB ho ha
end Go.Proofs.YtnooibeohdfcmaaGreatDoor.inse

/- The program's Declare: one exchange more, where that is right, in rows of its own; new memory alone. -/
namespace Go.Proofs.YtnooibeohdfcmaaGreatDoor.dim
open Go.ChangeShapes Go.WideShapes Go.ChangeAt Go.RowKit Go.Proofs.YtnooibeohdfcmaaGreatDoor.rc Go.Proofs.YtnooibeohdfcmaaGreatDoor.rr Go.Proofs.YtnooibeohdfcmaaGreatDoor.ra Go.Proofs.YtnooibeohdfcmaaGreatDoor.rt Go.Proofs.YtnooibeohdfcmaaGreatDoor.rs Go.Proofs.YtnooibeohdfcmaaGreatDoor.ro Go.Proofs.YtnooibeohdfcmaaGreatDoor.fl Go.Proofs.YtnooibeohdfcmaaGreatDoor.su Go.Proofs.YtnooibeohdfcmaaGreatDoor.dp Go.Proofs.YtnooibeohdfcmaaGreatDoor.rwy Go.Proofs.YtnooibeohdfcmaaGreatDoor.cr
set_option linter.unusedVariables false

/-- the argument's box and the answer's place -/
structure R0 (w : World) (es : List Ex) (bs : List Bi) (a0 b0 : Option Addr) (ec bc : Nat) (X : World) : Prop where
  bel : Below w.heap.size w X
  box : X.heap[w.heap.size]? = some (.cells #[.slice a0 es.length ec, .slice b0 bs.length bc] 27 (0, 0))
  res : X.heap[w.heap.size + 1]? = some (.cells #[.slice none 0 0, .slice none 0 0] 27 (0, 0))
theorem R0.on {w X X' : World} {es : List Ex} {bs : List Bi} {a0 b0 : Option Addr} {ec bc : Nat} (h : R0 w es bs a0 b0 ec bc X) (hb : Below X.heap.size X X') : R0 w es bs a0 b0 ec bc X' :=
  ⟨h.bel.trans (hb.mono h.bel.size), bstay h.box hb (Array.getElem?_eq_some_iff.1 h.box).1, bstay h.res hb (Array.getElem?_eq_some_iff.1 h.res).1⟩
theorem R0.size {w X : World} {es : List Ex} {bs : List Bi} {a0 b0 : Option Addr} {ec bc : Nat} (h : R0 w es bs a0 b0 ec bc X) : w.heap.size + 2 ≤ X.heap.size := (Array.getElem?_eq_some_iff.1 h.res).1
/-- a row of one's own, behind a place -/
def PE (w X : World) (g : Nat) (m : List Ex) : Prop := w.heap.size + 2 ≤ g ∧ FE X g m m.length
def PB (w X : World) (g : Nat) (m : List Bi) : Prop := w.heap.size + 2 ≤ g ∧ FB X g m m.length
theorem take_at {xs : List Value} {cur : Array Value} {n j : Nat} {v : Value} (h : cur.toList.take n = xs) (hv : xs[j]? = some v) : cur[j]? = some v := by
  rw [← h] at hv
  have hlt := (List.getElem?_eq_some_iff.1 hv).1
  rw [List.length_take] at hlt
  rw [List.getElem?_take_of_lt (by omega)] at hv
  simpa using hv
theorem OE.p {w X : World} {g c : Nat} {m : List Ex} (h : OE w X g c m) : PE w X g m := by
  obtain ⟨_, ⟨h1, _⟩ | ⟨g', cap', cur, h1, h2, h3, h4, h5, h6, h7⟩⟩ := h
  · cases h1
  cases h1
  refine ⟨h2, cur, h3, by rw [h6]; exact Nat.mul_le_mul_right 2 h4, fun i e _ he => ⟨take_at h7 (by simpa using flat_at cE_len m i e he 0 _ rfl), take_at h7 (flat_at cE_len m i e he 1 _ rfl)⟩⟩
theorem OB.p {w X : World} {g c : Nat} {m : List Bi} (h : OB w X g c m) : PB w X g m := by
  obtain ⟨_, ⟨h1, _⟩ | ⟨g', cap', cur, h1, h2, h3, h4, h5, h6, h7⟩⟩ := h
  · cases h1
  cases h1
  refine ⟨h2, cur, h3, by rw [h6]; exact Nat.mul_le_mul_right 3 h4, fun i e _ he => ⟨take_at h7 (by simpa using flat_at cB_len m i e he 0 _ rfl), take_at h7 (flat_at cB_len m i e he 1 _ rfl), take_at h7 (flat_at cB_len m i e he 2 _ rfl)⟩⟩
theorem own_E {w X : World} {g : Nat} {m : List Ex} (h : XE X g m m.length) (hg : w.heap.size + 2 ≤ g) (hl : m.length ≤ 1048576) : OE w X g m.length m := by
  obtain ⟨cur, h1, h2, h3⟩ := h
  refine ⟨flat_len cE_len m, .inr ⟨g, m.length, cur, rfl, hg, h1, Nat.le_refl _, by unfold maxLen; omega, h2, ?_⟩⟩
  apply List.ext_getElem?
  intro j
  by_cases hj : j < m.length * 2
  · rw [List.getElem?_take_of_lt hj]
    obtain ⟨u, hu⟩ : ∃ u, (m.flatMap cE)[j]? = some u := ⟨_, List.getElem?_eq_getElem (by rw [flat_len cE_len]; exact hj)⟩
    obtain ⟨i, e, r, a1, a2, rfl⟩ := flat_get cE_len m j u hu
    rw [hu]
    obtain ⟨b0, b1⟩ := h3 i e (List.getElem?_eq_some_iff.1 a1).1 a1
    match r, a2 with
    | 0, a2 => cases a2; simpa using b0
    | 1, a2 => cases a2; simpa using b1
    | r + 2, a2 => simp [cE] at a2
  · rw [List.getElem?_eq_none (by rw [List.length_take]; omega), List.getElem?_eq_none (by rw [flat_len cE_len]; omega)]
theorem own_B {w X : World} {g : Nat} {m : List Bi} (h : XB X g m m.length) (hg : w.heap.size + 2 ≤ g) (hl : m.length ≤ 1048576) : OB w X g m.length m := by
  obtain ⟨cur, h1, h2, h3⟩ := h
  refine ⟨flat_len cB_len m, .inr ⟨g, m.length, cur, rfl, hg, h1, Nat.le_refl _, by unfold maxLen; omega, h2, ?_⟩⟩
  apply List.ext_getElem?
  intro j
  by_cases hj : j < m.length * 3
  · rw [List.getElem?_take_of_lt hj]
    obtain ⟨u, hu⟩ : ∃ u, (m.flatMap cB)[j]? = some u := ⟨_, List.getElem?_eq_getElem (by rw [flat_len cB_len]; exact hj)⟩
    obtain ⟨i, e, r, a1, a2, rfl⟩ := flat_get cB_len m j u hu
    rw [hu]
    obtain ⟨b0, b1, b2⟩ := h3 i e (List.getElem?_eq_some_iff.1 a1).1 a1
    match r, a2 with
    | 0, a2 => cases a2; simpa using b0
    | 1, a2 => cases a2; simpa using b1
    | 2, a2 => cases a2; simpa using b2
    | r + 3, a2 => simp [cB] at a2
  · rw [List.getElem?_eq_none (by rw [List.length_take]; omega), List.getElem?_eq_none (by rw [flat_len cB_len]; omega)]
theorem fin_FE {w X : World} {g : Nat} {m : List Ex} {x0 x1 : Value} (h : PE w X g m) : FE (res2 X (w.heap.size + 1) x0 x1) g m m.length := by
  have hb := h.1
  exact cr.FE.keptE (cr.FE.keptE h.2 (Below.heap_setCell _ _ _ _ (show g ≠ w.heap.size + 1 by omega))) (Below.heap_setCell _ _ _ _ (show g ≠ w.heap.size + 1 by omega))
theorem fin_FB {w X : World} {g : Nat} {m : List Bi} {x0 x1 : Value} (h : PB w X g m) : FB (res2 X (w.heap.size + 1) x0 x1) g m m.length := by
  have hb := h.1
  exact cr.FB.keptB (cr.FB.keptB h.2 (Below.heap_setCell _ _ _ _ (show g ≠ w.heap.size + 1 by omega))) (Below.heap_setCell _ _ _ _ (show g ≠ w.heap.size + 1 by omega))
theorem PE.ne {w X : World} {g h : Nat} {m : List Ex} {l : List Bi} (h1 : PE w X g m) (h2 : PB w X h l) : g ≠ h := by
  rintro rfl
  obtain ⟨_, c, h3, _⟩ := h1
  obtain ⟨_, c', h4, _⟩ := h2
  rw [h3] at h4
  simp at h4
theorem ins_small {es : List Ex} {nn : ByteArray} {kd : Int} (h : ∀ e ∈ es, e.n.size ≤ 1048576) (hn : nn.size ≤ 1048576) : ∀ e ∈ insE es nn kd, e.n.size ≤ 1048576 := fun e he => by
  rcases insE_mem he with h1 | rfl
  · exact h e h1
  · exact hn

set_option maxRecDepth 100000 in
set_option maxHeartbeats 4000000 in
theorem impl_declare (es : List Ex) (bs : List Bi) (a0 b0 : Option Addr) (ec bc : Nat) (nn : ByteArray) (kd : Int) (w : World) (hel : es.length ≤ 1048576) (hbl : bs.length ≤ 1048576) (hes : ∀ e ∈ es, e.n.size ≤ 1048576) (hbs : ∀ b ∈ bs, b.x.size ≤ 1048576 ∧ b.k.size ≤ 1048576 ∧ b.q.size ≤ 1048576) (hnm : nn.size ≤ 1048576) {ka kb : Nat} (hE : RE w ka es) (hB : RB w kb bs) (hna : Hid (apa.NQ a0 ⟨ka, 0, none⟩ es.length ec)) (hnb : Hid (apa.NQ b0 ⟨kb, 0, none⟩ bs.length bc)) :
    Calls Tryz.prog 12 #[.agg #[.slice a0 es.length ec, .slice b0 bs.length bc], .string nn, .int .i64 kd] w fun r w' => ∃ ga ca gb cb, r = .returned (.tuple #[.agg #[.slice (some ⟨ga, 0, none⟩) (ansD es bs nn kd).length ca, .slice (some ⟨gb, 0, none⟩) bs.length cb], .bool (retD es bs nn kd)]) ∧ w.heap.size ≤ ga ∧ w.heap.size ≤ gb ∧ ga ≠ gb ∧ FE w' ga (ansD es bs nn kd) (ansD es bs nn kd).length ∧ FB w' gb bs bs.length ∧ Below w.heap.size w w' := by
  have hr0 : R0 w es bs a0 b0 ec bc ((w.alloc (.cells #[.slice a0 es.length ec, .slice b0 bs.length bc] 27)).alloc (.cells #[.slice none 0 0, .slice none 0 0] 27)) := ⟨first_below w es bs a0 b0 _ _, first_box w es bs a0 b0 _ _, first_res w es bs a0 b0 _ _⟩
  have hokc := ri.impl_routes es bs ka ec kb bc _ hel hbl hes hbs (hE.below hr0.bel) (hB.below hr0.bel) a0 b0 hna hnb
  have HE : Hid (RE w ka es) := hE
  have HB : Hid (RB w kb bs) := hB
  have HES : Hid (∀ e ∈ es, e.n.size ≤ 1048576) := hes
  have HBS : Hid (∀ b ∈ bs, b.x.size ≤ 1048576 ∧ b.k.size ≤ 1048576 ∧ b.q.size ≤ 1048576) := hbs
  obtain ⟨AN, hAN⟩ : ∃ AN, ansD es bs nn kd = AN := ⟨_, rfl⟩
  obtain ⟨rt, hrt⟩ : ∃ rt, retD es bs nn kd = rt := ⟨_, rfl⟩
  have HAN : Hid (ansD es bs nn kd = AN) := hAN
  have HRT : Hid (retD es bs nn kd = rt) := hrt
  simp only [hAN, hrt]
  obtain ⟨W, hW⟩ : ∃ W, (w.alloc (.cells #[.slice a0 es.length ec, .slice b0 bs.length bc] 27)).alloc (.cells #[.slice none 0 0, .slice none 0 0] 27) = W := ⟨_, rfl⟩
  rw [hW] at hr0 hokc
  have HR0 : Hid (R0 w es bs a0 b0 ec bc W) := hr0
  have x0 : W.cell? ⟨w.heap.size, 0, none⟩ = some (.slice a0 es.length ec) := bcell hr0.box rfl
  have x1 : W.cell? ⟨w.heap.size, 1, none⟩ = some (.slice b0 bs.length bc) := bcell hr0.box rfl
  clear hE hB hes hbs hAN hrt hr0
  go_enter Tryz.func12, Tryz.ntmps12
  go_wp2_with (go_at_call 16; fail)
  clear hW x0 x1
  refine hokc.mono ?_
  rintro e w1 ⟨⟨bo, rfl, hbo⟩, hb1⟩
  have HR1 : Hid (R0 w es bs a0 b0 ec bc w1) := HR0.out.on hb1
  have x0 : w1.cell? ⟨w.heap.size, 0, none⟩ = some (.slice a0 es.length ec) := bcell HR1.out.box rfl
  have x1 : w1.cell? ⟨w.heap.size, 1, none⟩ = some (.slice b0 bs.length bc) := bcell HR1.out.box rfl
  have hcp := fun (X : World) (h : Below w.heap.size w X) => cr.copy_own es bs a0 b0 ec bc X hel hbl HES.out HBS.out (HE.out.below h) (HB.out.below h) hna hnb
  clear hokc hb1 HR0
  by_cases hok : OkR es bs
  case neg =>
    obtain rfl : bo = false := by
      cases bo with
      | false => rfl
      | true => exact absurd (hbo.1 rfl) hok
    have HA : Hid (es = AN) := (bad hok).1.symm.trans HAN.out
    have HR : Hid (false = rt) := (bad hok).2.symm.trans HRT.out
    have hc1 := hcp w1 HR1.out.bel
    clear hbo hok hcp
    go_wp2_with (go_at_call 37; fail)
    refine hc1.mono ?_
    rintro e w2 ⟨g1, h1, rfl, hg1, hh1, hne, fe, fb, hb2⟩
    have hsz := HR1.out.size
    have HR2 : Hid (R0 w es bs a0 b0 ec bc w2) := HR1.out.on hb2
    have PE2 : Hid (PE w w2 g1 es) := ⟨by omega, fe.f⟩
    have PB2 : Hid (PB w w2 h1 bs) := ⟨by omega, fb.f⟩
    clear hc1 fe fb hb2 x0 x1
    have z0 : w2.cell? ⟨w.heap.size + 1, 0, none⟩ = some (.slice none 0 0) := bcell HR2.out.res rfl
    have z1 : w2.cell? ⟨w.heap.size + 1, 1, none⟩ = some (.slice none 0 0) := bcell HR2.out.res rfl
    have z0f := bfree HR2.out.res 0
    have z1f := bfree HR2.out.res 1
    have hge2 := PE2.out.1
    have hgb2 := PB2.out.1
    go_wp2
    refine bodyPost_ret (v := .tuple #[.agg #[.slice (some ⟨g1, 0, none⟩) es.length es.length, .slice (some ⟨h1, 0, none⟩) bs.length bs.length], .bool false]) (by simp [results, Tryz.results12, go_sem, z0, z1]) rfl ⟨g1, es.length, h1, bs.length, by rw [← HA.out, HR.out], by omega, by omega, hne, ?_, ?_, ?_⟩
    · rw [← HA.out]; exact fin_FE PE2.out
    · exact fin_FB PB2.out
    · exact fin_below HR2.out.bel
  case pos =>
    obtain rfl : bo = true := hbo.2 hok
    have HOK : Hid (OkR es bs) := hok
    have hel4 := hok.el
    have hfn := ri.find_ex es ka ec nn w1 hel (HE.out.below HR1.out.bel) hok.eu a0 hna
    clear hbo hok
    go_wp2_with (go_at_call 46; fail)
    refine hfn.mono ?_
    rintro e w2 ⟨⟨p, bt, rfl, hp, hbt⟩, hb2⟩
    have HR2 : Hid (R0 w es bs a0 b0 ec bc w2) := HR1.out.on hb2
    have HE2 : Hid (RE w2 ka es) := HE.out.below HR2.out.bel
    clear hfn hb2 x0 x1 HR1
    have x0 : w2.cell? ⟨w.heap.size, 0, none⟩ = some (.slice a0 es.length ec) := bcell HR2.out.box rfl
    have x1 : w2.cell? ⟨w.heap.size, 1, none⟩ = some (.slice b0 bs.length bc) := bcell HR2.out.box rfl
    have hp0 : p ≤ es.length := hp.1
    have HP : Hid (posE es nn = p) := posE_of hp
    cases bt with
    | true =>
      obtain ⟨a, ha, hz⟩ := (found HOK.out.eu hp).2 (hbt.1 rfl)
      obtain ⟨an, ak⟩ := a
      have hane : an = nn := cmp_zero.1 hz
      have HA : Hid (es = AN) := (there HOK.out ha hane).1.symm.trans HAN.out
      have HR : Hid (decide (ak = kd) = rt) := (there HOK.out ha hane).2.symm.trans HRT.out
      have hpl : p < es.length := (List.getElem?_eq_some_iff.1 ha).1
      have hpi : (p : Int) < (es.length : Int) := by omega
      obtain ⟨_, q1⟩ := HE2.out.2 p _ ha
      have q1 : w2.cell? ⟨ka, p * 2 + 1, none⟩ = some (.int .i64 ak) := q1
      have hc2 := hcp w2.drew HR2.out.bel.drew
      have hqa : a0 = some ⟨ka, 0, none⟩ := hna.out.at (by omega)
      rw [hqa] at hc2
      have HQ : Hid (∀ X, Below w2.heap.size w2 X → X.cell? ⟨ka, p * 2 + 1, none⟩ = some (.int .i64 ak)) := fun X h => ((HE2.out.below h).2 p _ ha).2
      have hsz := HR2.out.size
      have hal := HE.out.1
      have ha1 : ¬ ka = w.heap.size + 1 := by omega
      have ha2 : ¬ w.heap.size + 1 = ka := by omega
      clear hcp hbt hp ha hz hane hal
      go_wp2
      go_region_with (go_at_call 37; refine hc2.mono ?_; rintro e w3 ⟨g1, h1, rfl, hg1, hh1, hne, fe, fb, hb3⟩; have hb3' : Below w2.heap.size w2 w3 := (Below.refl _ _).drew.trans hb3; have HR3 : Hid (R0 w es bs a0 b0 ec bc w3) := HR2.out.on hb3'; have q2 := HQ.out w3 hb3'; have y0 : w3.cell? ⟨w.heap.size, 0, none⟩ = some (.slice a0 es.length ec) := bcell HR3.out.box rfl; have PE2 : Hid (PE w w3 g1 es) := ⟨Nat.le_trans hsz hg1, fe.f⟩; have PB2 : Hid (PB w w3 h1 bs) := ⟨Nat.le_trans hsz hh1, fb.f⟩; have z0 : w3.cell? ⟨w.heap.size + 1, 0, none⟩ = some (.slice none 0 0) := bcell HR3.out.res rfl; have z1 : w3.cell? ⟨w.heap.size + 1, 1, none⟩ = some (.slice none 0 0) := bcell HR3.out.res rfl; have z0f := bfree HR3.out.res 0; have z1f := bfree HR3.out.res 1; clear hb3 hb3' fe fb)
      all_goals go_wp2
      all_goals
        have hge2 := PE2.out.1
        have hgb2 := PB2.out.1
        refine bodyPost_ret (v := .tuple #[.agg #[.slice (some ⟨g1, 0, none⟩) es.length es.length, .slice (some ⟨h1, 0, none⟩) bs.length bs.length], .bool (decide (ak = kd))]) (by simp [results, Tryz.results12, go_sem, z0, z1]; rfl) rfl ⟨g1, es.length, h1, bs.length, by rw [← HA.out, HR.out], by omega, by omega, hne, ?_, ?_, ?_⟩
      all_goals first | (rw [← HA.out]; exact fin_FE PE2.out) | exact fin_FB PB2.out | exact fin_below HR3.out.bel
    | false =>
      have HNO : Hid (¬ hasE es nn) := fun hh => by have := hbt.2 hh; cases this
      have hc2 := hcp w2 HR2.out.bel
      have hsz := HR2.out.size
      clear hbt hp
      go_wp2_with (go_at_call 37; fail)
      refine hc2.mono ?_
      rintro e w3 ⟨g1, h1, rfl, hg1, hh1, hne, fe, fb, hb3⟩
      have hs3 := hb3.size
      have HR3 := HR2.out.on hb3
      have RXa : RX w es bs a0 b0 ec bc w3.heap.size (.slice (some ⟨g1, 0, none⟩) es.length es.length) (.slice (some ⟨h1, 0, none⟩) bs.length bs.length) (w3.alloc (.cells #[.slice (some ⟨g1, 0, none⟩) es.length es.length, .slice (some ⟨h1, 0, none⟩) bs.length bs.length] 27)) := ⟨HR3.bel.alloc (by omega) _, bold HR3.box _, bold HR3.res _, bnew w3 _ _, by omega⟩
      have OEa : OE w (w3.alloc (.cells #[.slice (some ⟨g1, 0, none⟩) es.length es.length, .slice (some ⟨h1, 0, none⟩) bs.length bs.length] 27)) g1 es.length es := (own_E fe (by omega) hel).on ((Below.refl _ _).alloc (Nat.le_refl _) _)
      have OBa : OB w (w3.alloc (.cells #[.slice (some ⟨g1, 0, none⟩) es.length es.length, .slice (some ⟨h1, 0, none⟩) bs.length bs.length] 27)) h1 bs.length bs := (own_B fb (by omega) hbl).on ((Below.refl _ _).alloc (Nat.le_refl _) _)
      obtain ⟨X, hX⟩ : ∃ X, w3.alloc (.cells #[.slice (some ⟨g1, 0, none⟩) es.length es.length, .slice (some ⟨h1, 0, none⟩) bs.length bs.length] 27) = X := ⟨_, rfl⟩
      rw [hX] at RXa OEa OBa
      obtain ⟨n8, hn8⟩ : ∃ n8, w3.heap.size = n8 := ⟨_, rfl⟩
      rw [hn8] at RXa
      have RX4 : Hid (RX w es bs a0 b0 ec bc n8 (.slice (some ⟨g1, 0, none⟩) es.length es.length) (.slice (some ⟨h1, 0, none⟩) bs.length bs.length) X) := RXa
      have OE4 : Hid (OE w X g1 es.length es) := OEa
      have OB4 : Hid (OB w X h1 bs.length bs) := OBa
      have hcl := fun W => cl.clone nn W (by omega)
      have n0 : X.cell? ⟨n8, 0, none⟩ = some (.slice (some ⟨g1, 0, none⟩) es.length es.length) := bcell RXa.out rfl
      clear hc2 fe fb hb3 x0 x1 HR2 HR3 RXa OEa OBa HE2
      go_wp2
      clear hX
      go_region_with (first | (go_at_call 27; refine (hcl _).mono ?_; rintro e w4 ⟨rfl, hb4⟩; have hb4' : Below X.heap.size X w4 := (Below.refl _ _).drew.trans hb4; have hal4 : Below w4.heap.size w4 (w4.alloc (.cells #[.string nn, .int .i64 kd] 75)) := (Below.refl _ _).alloc (Nat.le_refl _) _; have RX5 := RX4.out.on hb4'; have n01 : w4.cell? ⟨n8, 0, none⟩ = some (.slice (some ⟨g1, 0, none⟩) es.length es.length) := bcell RX5.out rfl; have n8l := RX5.n8lt; have RX6 : Hid (RX w es bs a0 b0 ec bc n8 (.slice (some ⟨g1, 0, none⟩) es.length es.length) (.slice (some ⟨h1, 0, none⟩) bs.length bs.length) (w4.alloc (.cells #[.string nn, .int .i64 kd] 75))) := RX5.on hal4; have OE6 : Hid (OE w (w4.alloc (.cells #[.string nn, .int .i64 kd] 75)) g1 es.length es) := (OE4.out.on hb4').on hal4; have OB6 : Hid (OB w (w4.alloc (.cells #[.string nn, .int .i64 kd] 75)) h1 bs.length bs) := (OB4.out.on hb4').on hal4; have hin := inse.insert_exchange es g1 p (w.heap.size + 2) nn kd w4.heap.size (w4.alloc (.cells #[.string nn, .int .i64 kd] 75)) hp0 hel RX6.out.size OE6.out (bnew w4 _ _); clear hb4 hb4' hal4 RX5) | (go_at_call 47; refine hin.mono ?_; rintro e w5 ⟨g6, c6, rfl, ho5, hg5⟩; have RX7 : Hid (RX w es bs a0 b0 ec bc n8 (.slice (some ⟨g1, 0, none⟩) es.length es.length) (.slice (some ⟨h1, 0, none⟩) bs.length bs.length) w5) := RX6.out.grown (by decide) hg5 OE6.out; have OB7 : Hid (OB w w5 h1 bs.length bs) := OB6.out.grown hg5 OE6.out; have HO5 : Hid (w5.ownsRow (w.heap.size + 2) 75 2 (.slice (some ⟨g6, 0, none⟩) (es.length + 1) c6) (es.length + 1) ((es.take p ++ ⟨nn, kd⟩ :: es.drop p).flatMap cE)) := ho5; have n02 : w5.cell? ⟨n8, 0, none⟩ = some (.slice (some ⟨g1, 0, none⟩) es.length es.length) := bcell RX7.out.out rfl; have n0f := bfree RX7.out.out 0; clear hin ho5 hg5 n01 n8l RX6 OE6 OB6))
      all_goals
        have hset : es.take p ++ ⟨nn, kd⟩ :: es.drop p = insE es nn kd := by unfold insE; rw [HP.out]
        have ho8 := HO5.out
        rw [hset] at ho8
        have RX8 : Hid (RX w es bs a0 b0 ec bc n8 (.slice (some ⟨g6, 0, none⟩) (es.length + 1) c6) (.slice (some ⟨h1, 0, none⟩) bs.length bs.length) (w5.setCell ⟨n8, 0, none⟩ (.slice (some ⟨g6, 0, none⟩) (es.length + 1) c6))) := RX7.out.put0 _
        have OB8 : Hid (OB w (w5.setCell ⟨n8, 0, none⟩ (.slice (some ⟨g6, 0, none⟩) (es.length + 1) c6)) h1 bs.length bs) := OB7.out.put RX7.out 0 _
        have ho9 := owns_set (o := 0) ho8 (owns_ne (by decide) ho8 RX7.out.out) (.slice (some ⟨g6, 0, none⟩) (es.length + 1) c6)
        obtain ⟨Y, hY⟩ : ∃ Y, w5.setCell ⟨n8, 0, none⟩ (.slice (some ⟨g6, 0, none⟩) (es.length + 1) c6) = Y := ⟨_, rfl⟩
        rw [hY] at RX8 OB8 ho9
        have OE8 : Hid (OE w Y g6 c6 (insE es nn kd)) := by unfold Hid OE; rw [insE_len]; exact ho9
        have hok8 := ri.impl_routes (insE es nn kd) bs g6 c6 h1 bs.length Y (by rw [insE_len]; omega) hbl (ins_small HES.out hnm) HBS.out OE8.out.re OB8.out.rb _ _ (own_nq _ _ _) (own_nq _ _ _)
        rw [insE_len] at hok8
        have o0 : Y.cell? ⟨n8, 0, none⟩ = some (.slice (some ⟨g6, 0, none⟩) (es.length + 1) c6) := bcell RX8.out.out rfl
        have o1 : Y.cell? ⟨n8, 1, none⟩ = some (.slice (some ⟨h1, 0, none⟩) bs.length bs.length) := bcell RX8.out.out rfl
        clear ho8 ho9 HO5 RX7 OB7 n02 n0f RX4 OE4 OB4 n0 hcl hset
        go_wp2_with (go_at_call 16; fail)
        clear hY o0 o1
        refine hok8.mono ?_
        rintro e w6 ⟨⟨bo, rfl, hbo⟩, hb6⟩
        have RX9 : Hid (RX w es bs a0 b0 ec bc n8 (.slice (some ⟨g6, 0, none⟩) (es.length + 1) c6) (.slice (some ⟨h1, 0, none⟩) bs.length bs.length) w6) := RX8.out.on hb6
        have PE9 : Hid (PE w w6 g6 (insE es nn kd)) := OE.p (OE8.out.on hb6)
        have PB9 : Hid (PB w w6 h1 bs) := OB.p (OB8.out.on hb6)
        clear hok8 RX8 OE8 OB8 hb6
        by_cases hok2 : OkR (insE es nn kd) bs
        case pos =>
          obtain rfl : bo = true := hbo.2 hok2
          have HA : Hid (insE es nn kd = AN) := (put HOK.out HNO.out hok2).1.symm.trans HAN.out
          have HR : Hid (true = rt) := (put HOK.out HNO.out hok2).2.symm.trans HRT.out
          clear hbo hok2 hcp
          have n0 : w6.cell? ⟨n8, 0, none⟩ = some (.slice (some ⟨g6, 0, none⟩) (es.length + 1) c6) := bcell RX9.out.out rfl
          have n1 : w6.cell? ⟨n8, 1, none⟩ = some (.slice (some ⟨h1, 0, none⟩) bs.length bs.length) := bcell RX9.out.out rfl
          have z0 : w6.cell? ⟨w.heap.size + 1, 0, none⟩ = some (.slice none 0 0) := bcell RX9.out.res rfl
          have z1 : w6.cell? ⟨w.heap.size + 1, 1, none⟩ = some (.slice none 0 0) := bcell RX9.out.res rfl
          have z0f := bfree RX9.out.res 0
          have z1f := bfree RX9.out.res 1
          have hge2 := PE9.out.1
          have hgb2 := PB9.out.1
          go_wp2
          refine bodyPost_ret (v := .tuple #[.agg #[.slice (some ⟨g6, 0, none⟩) (es.length + 1) c6, .slice (some ⟨h1, 0, none⟩) bs.length bs.length], .bool true]) (by simp [results, Tryz.results12, go_sem, z0, z1]) rfl ⟨g6, c6, h1, bs.length, by rw [← HA.out, insE_len, HR.out], by omega, by omega, PE9.out.ne PB9.out, ?_, ?_, ?_⟩
          · rw [← HA.out]; exact fin_FE PE9.out
          · exact fin_FB PB9.out
          · exact fin_below RX9.out.bel
        case neg =>
          obtain rfl : bo = false := by
            cases bo with
            | false => rfl
            | true => exact absurd (hbo.1 rfl) hok2
          have HA : Hid (es = AN) := (over HOK.out HNO.out hok2).1.symm.trans HAN.out
          have HR : Hid (false = rt) := (over HOK.out HNO.out hok2).2.symm.trans HRT.out
          have hc6 := hcp w6 RX9.out.bel
          have x0 : w6.cell? ⟨w.heap.size, 0, none⟩ = some (.slice a0 es.length ec) := bcell RX9.out.box rfl
          have x1 : w6.cell? ⟨w.heap.size, 1, none⟩ = some (.slice b0 bs.length bc) := bcell RX9.out.box rfl
          clear hbo hok2 hcp
          go_wp2_with (go_at_call 37; fail)
          refine hc6.mono ?_
          rintro e w7 ⟨g7, h7, rfl, hg7, hh7, hne7, fe7, fb7, hb7⟩
          have hsz6 := RX9.out.size
          have RX10 : Hid (RX w es bs a0 b0 ec bc n8 (.slice (some ⟨g6, 0, none⟩) (es.length + 1) c6) (.slice (some ⟨h1, 0, none⟩) bs.length bs.length) w7) := RX9.out.on hb7
          have PE10 : Hid (PE w w7 g7 es) := ⟨by omega, fe7.f⟩
          have PB10 : Hid (PB w w7 h7 bs) := ⟨by omega, fb7.f⟩
          clear hc6 fe7 fb7 hb7 x0 x1
          have z0 : w7.cell? ⟨w.heap.size + 1, 0, none⟩ = some (.slice none 0 0) := bcell RX10.out.res rfl
          have z1 : w7.cell? ⟨w.heap.size + 1, 1, none⟩ = some (.slice none 0 0) := bcell RX10.out.res rfl
          have z0f := bfree RX10.out.res 0
          have z1f := bfree RX10.out.res 1
          have hge2 := PE10.out.1
          have hgb2 := PB10.out.1
          go_wp2
          refine bodyPost_ret (v := .tuple #[.agg #[.slice (some ⟨g7, 0, none⟩) es.length es.length, .slice (some ⟨h7, 0, none⟩) bs.length bs.length], .bool false]) (by simp [results, Tryz.results12, go_sem, z0, z1]) rfl ⟨g7, es.length, h7, bs.length, by rw [← HA.out, HR.out], by omega, by omega, hne7, ?_, ?_, ?_⟩
          · rw [← HA.out]; exact fin_FE PE10.out
          · exact fin_FB PB10.out
          · exact fin_below RX10.out.bel
end Go.Proofs.YtnooibeohdfcmaaGreatDoor.dim
