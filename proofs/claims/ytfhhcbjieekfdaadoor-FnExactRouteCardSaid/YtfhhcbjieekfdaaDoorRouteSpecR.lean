/- The specification's Route. -/
import Derived.Test.YtfhhcbjieekfdaaDoorRouteAns
import Derived.Test.YtfhhcbjieekfdaaDoorRouteSpec
import Derived.Test.YtfhhcbjieekfdaaDoorPutText
import Derived.Test.YtfhhcbjieekfdaaDoorTopicImpl
namespace Go.Proofs.YtfhhcbjieekfdaaDoor.rsr
open Go.ChangeShapes Go.WideShapes Go.ChangeAt Go.RowKit Go.Proofs.YtfhhcbjieekfdaaDoor.fl Go.Proofs.YtfhhcbjieekfdaaDoor.rr Go.Proofs.YtfhhcbjieekfdaaDoor.rc Go.Proofs.YtfhhcbjieekfdaaDoor.ro Go.Proofs.YtfhhcbjieekfdaaDoor.rtp Go.Proofs.YtfhhcbjieekfdaaDoor.rta Go.Proofs.YtfhhcbjieekfdaaDoor.ptt
set_option linter.unusedVariables false

theorem emp_eq {v : ByteArray} (h : v ≠ ⟨#[]⟩) : (v.toList == ([] : List UInt8)) = false := by
  obtain ⟨⟨l⟩⟩ := v
  cases l with
  | nil => exact absurd rfl h
  | cons a r => simp [ByteArray.toList_eq]
/-- what stands while the bindings are gone through -/
structure St (W : World) (L : List ByteArray) (v : Value) (wr : World) : Prop where
  bel : Below W.heap.size W wr
  al : ∃ g c, v = .slice (some ⟨g, 0, none⟩) L.length c ∧ L.length ≤ c ∧ Row cS 1 wr wr.heap.size (some ⟨g, 0, none⟩) L
theorem St.on {W wr X : World} {L : List ByteArray} {v : Value} (h : St W L v wr) (hb : Below wr.heap.size wr X) : St W L v X := by
  obtain ⟨g, c, h1, h2, h3⟩ := h.al
  exact ⟨h.bel.trans (hb.mono h.bel.size), g, c, h1, h2, h3.inn hb⟩
/-- what a law wants of the specification's answer -/
def RS (w : World) (L : List ByteArray) (b : Bool) (e : Ending) (w' : World) : Prop := ∃ g c, e = .returned (.tuple #[.slice (some ⟨g, 0, none⟩) L.length c, .bool b]) ∧ Row cS 1 w' w'.heap.size (some ⟨g, 0, none⟩) L ∧ Below w.heap.size w w'

set_option maxRecDepth 100000 in
set_option maxHeartbeats 4000000 in
theorem spec_route (es : List Ex) (bs : List Bi) (ge ce gb cb : Nat) (x key : ByteArray) (w : World) (hel : es.length ≤ 1048576) (hbl : bs.length ≤ 1048576) (hes : ∀ e ∈ es, e.n.size ≤ 1048576) (hbs : ∀ b ∈ bs, b.x.size ≤ 1048576 ∧ b.k.size ≤ 1048576 ∧ b.q.size ≤ 1048576) (hx : x.size ≤ 1048576) (hkey : key.size ≤ 1048576) (hE : RE w ge es) (hB : RB w gb bs) :
    Calls Tryd.prog 5 #[.agg #[.slice (some ⟨ge, 0, none⟩) es.length ce, .slice (some ⟨gb, 0, none⟩) bs.length cb], .string x, .string key] w fun e w' => RS w (ansL es bs x key) (ansB es bs x key) e w' := by
  have hb0 : Below w.heap.size w (w.alloc (.cells #[.slice (some ⟨ge, 0, none⟩) es.length ce, .slice (some ⟨gb, 0, none⟩) bs.length cb] 33)) := (Below.refl _ _).alloc (Nat.le_refl _) _
  have hA0 := bnew w #[.slice (some ⟨ge, 0, none⟩) es.length ce, .slice (some ⟨gb, 0, none⟩) bs.length cb] 33
  obtain ⟨W0, hW0⟩ : ∃ W0, w.alloc (.cells #[.slice (some ⟨ge, 0, none⟩) es.length ce, .slice (some ⟨gb, 0, none⟩) bs.length cb] 33) = W0 := ⟨_, rfl⟩
  rw [hW0] at hb0 hA0
  have hlt0 := (Array.getElem?_eq_some_iff.1 hA0).1
  have hb1 : Below W0.heap.size W0 (W0.alloc (.cells #[] 9)) := (Below.refl _ _).alloc (Nat.le_refl _) _
  obtain ⟨W, hW⟩ : ∃ W, W0.alloc (.cells #[] 9) = W := ⟨_, rfl⟩
  have hWs : W.heap.size = W0.heap.size + 1 := by rw [← hW]; simp
  rw [hW] at hb1
  have hbW : Below w.heap.size w W := hb0.trans (hb1.mono hb0.size)
  have hA := bstay hA0 hb1 hlt0
  have hlt : w.heap.size < W.heap.size := Nat.lt_of_lt_of_le hlt0 hb1.size
  have BX : Hid (∀ w', Below W.heap.size W w' → w'.cell? ⟨w.heap.size, 0, none⟩ = some (.slice (some ⟨ge, 0, none⟩) es.length ce) ∧ w'.cell? ⟨w.heap.size, 1, none⟩ = some (.slice (some ⟨gb, 0, none⟩) bs.length cb)) := fun w' h => by
    have h1 := bstay hA h hlt
    exact ⟨bcell h1 rfl, bcell h1 rfl⟩
  have HE : Hid (RE W ge es) := hE.below hbW
  have HB : Hid (RB W gb bs) := hB.below hbW
  have hok := rk.spec_routes es bs ge ce gb cb W hel hbl hes hbs HE.out HB.out
  have HBS : Hid (∀ b ∈ bs, b.x.size ≤ 1048576 ∧ b.k.size ≤ 1048576 ∧ b.q.size ≤ 1048576) := hbs
  obtain ⟨c0, c1⟩ := BX.out W (Below.refl _ _)
  have HNIL : Hid (∀ wr, Below W.heap.size W wr → ∀ b, RS w [] b (.returned (.tuple #[.slice (some ⟨W0.heap.size, 0, none⟩) 0 0, .bool b])) wr) := fun wr h b => ⟨W0.heap.size, 0, rfl, .inl rfl, hbW.trans (h.mono hbW.size)⟩
  obtain ⟨L, hL⟩ : ∃ L, ansL es bs x key = L := ⟨_, rfl⟩
  obtain ⟨B, hBB⟩ : ∃ B, ansB es bs x key = B := ⟨_, rfl⟩
  have HL : Hid (ansL es bs x key = L) := hL
  have HBV : Hid (ansB es bs x key = B) := hBB
  rw [hL, hBB]
  clear hE hB hA hA0 hes hbs hL hBB
  go_enter Tryd.func5, Tryd.ntmps5
  go_wp2_with (go_at_call 15; fail)
  clear hW hW0
  refine hok.mono ?_
  rintro e w1 ⟨⟨ok, rfl, hoki⟩, hbw1⟩
  have HOK : Hid (okr es bs = ok) := okr_of hoki
  obtain ⟨d0, d1⟩ := BX.out w1 hbw1
  clear hok hoki c0 c1
  cases ok with
  | false =>
    obtain ⟨h1, h2⟩ := ans_bad (x := x) (es := es) (bs := bs) (key := key) (by rw [HOK.out]; rfl)
    have HF := HNIL.out w1 hbw1 false
    rw [HL.out] at h1
    rw [HBV.out] at h2
    subst h1; subst h2
    go_wp2
    go_ret2
    exact HF
  | true =>
    have hky := ky.spec_key key w1 hkey
    obtain ⟨kg, hkg⟩ : ∃ kg, ky.good key = kg := ⟨_, rfl⟩
    have HKG : Hid (ky.good key = kg) := hkg
    rw [hkg] at hky
    clear hkg
    go_wp2_with (go_at_call 16; fail)
    refine hky.mono ?_
    rintro e w2 ⟨rfl, hw2⟩
    obtain rfl := hw2
    clear hky
    cases kg with
    | false =>
      obtain ⟨h1, h2⟩ := ans_bad (x := x) (es := es) (bs := bs) (key := key) (by rw [HOK.out, HKG.out]; rfl)
      have HF := HNIL.out w1 hbw1 false
      rw [HL.out] at h1
      rw [HBV.out] at h2
      subst h1; subst h2
      go_wp2
      go_ret2
      exact HF
    | true =>
      have hgood : (okr es bs && ky.good key) = true := by rw [HOK.out, HKG.out]; rfl
      by_cases hxe : x = ⟨#[]⟩
      · obtain ⟨h1, h2⟩ := ans_self (es := es) (bs := bs) (key := key) hgood hxe
        rw [HL.out] at h1
        rw [HBV.out] at h2
        subst h1; subst h2
        subst hxe
        have HF : Hid (RS w [key] true (.returned (.tuple #[.slice (some ⟨w1.heap.size, 0, none⟩) 1 1, .bool true])) (w1.alloc (.cells #[.string key] 9))) := by
          have hn := bnew w1 #[.string key] 9
          refine ⟨w1.heap.size, 1, rfl, .inr ⟨w1.heap.size, 0, rfl, (Array.getElem?_eq_some_iff.1 hn).1, fun i e he j v hv => ?_⟩, (hbW.trans (hbw1.mono hbW.size)).alloc (hbW.trans (hbw1.mono hbW.size)).size _⟩
          match i, he, j, hv with
          | 0, he, 0, hv => cases he; cases hv; exact bcell hn rfl
          | 0, he, j + 1, hv => simp [cS] at hv
          | i + 1, he, _, _ => simp at he
        go_wp2
        go_ret2
        exact HF.out
      · have hne : (x.toList == ([] : List UInt8)) = false := emp_eq hxe
        have hkd := spec_kind es ge ce (some ⟨gb, 0, none⟩) bs.length cb x w1 hel (HE.out.below hbw1)
        go_wp2_with (go_at_call 17; fail)
        refine hkd.mono ?_
        rintro e w3 ⟨rfl, hb3⟩
        have hbw3 : Below W.heap.size W w3 := hbw1.trans (hb3.mono hbw1.size)
        obtain ⟨e0, e1⟩ := BX.out w3 hbw3
        obtain ⟨kd, hkde⟩ : ∃ kd, kindOf es x = kd := ⟨_, rfl⟩
        rw [hkde]
        clear hkd d0 d1
        by_cases hk0 : kd < 0
        · obtain ⟨h1, h2⟩ := ans_none (es := es) (bs := bs) (key := key) hgood hxe (by rw [hkde]; exact hk0)
          rw [HL.out] at h1
          rw [HBV.out] at h2
          subst h1; subst h2
          have HF := HNIL.out w3 hbw3 false
          go_wp2
          go_ret2
          exact HF
        · obtain ⟨h1, h2⟩ := ans_some (es := es) (bs := bs) (key := key) hgood hxe (by rw [hkde]; exact hk0)
          rw [HL.out, hkde] at h1
          rw [HBV.out] at h2
          subst h2
          have HLQ : Hid (L = puts (qs kd x key bs)) := h1
          have HS0 : Hid (St W (puts (qs kd x key (bs.take 0))) (.slice (some ⟨W0.heap.size, 0, none⟩) 0 0) w3) := ⟨hbw3, W0.heap.size, 0, rfl, Nat.le_refl _, .inl rfl⟩
          clear h1 hb3 hkde hgood
          go_wp2
          go_loopw [8, 10] (fun v y wr => ∃ k : Nat, k ≤ bs.length ∧ y = .int .i64 k ∧ Hid (St W (puts (qs kd x key (bs.take k))) v wr)) (fun _ y _ => bs.length - (intOf y).toNat)
          case atStart => exact ⟨0, Nat.zero_le _, rfl, HS0⟩
          case round =>
            obtain ⟨k, hk, rfl, hst⟩ := hrel
            clear HS0 e0 e1
            obtain ⟨e0, e1⟩ := BX.out wr hst.out.bel
            by_cases hkl : k < bs.length
            · have i2 : (k : Int) < (bs.length : Int) := by omega
              have HG : Hid (bs[k]? = some bs[k]) := List.getElem?_eq_getElem hkl
              have hsz := HBS.out bs[k] (List.getElem_mem hkl)
              obtain ⟨⟨bx, bk, bq⟩, he⟩ : ∃ e, bs[k] = e := ⟨_, rfl⟩
              rw [he] at HG hsz
              obtain ⟨f0, f1, f2⟩ := (HB.out.below hst.out.bel).2 k _ HG.out
              have hal : Below wr.heap.size wr (wr.alloc (.cells #[.string bx, .string bk, .string bq] 46)) := (Below.refl _ _).alloc (Nat.le_refl _) _
              have hnw := bnew wr #[.string bx, .string bk, .string bq] 46
              have hnl := (Array.getElem?_eq_some_iff.1 hnw).1
              have HBX : Hid (∀ w', Below (wr.alloc (.cells #[.string bx, .string bk, .string bq] 46)).heap.size (wr.alloc (.cells #[.string bx, .string bk, .string bq] 46)) w' → w'.cell? ⟨wr.heap.size, 0, none⟩ = some (.string bx) ∧ w'.cell? ⟨wr.heap.size, 1, none⟩ = some (.string bk) ∧ w'.cell? ⟨wr.heap.size, 2, none⟩ = some (.string bq)) := fun w' h => by
                have h1 := bstay hnw h hnl
                exact ⟨bcell h1 rfl, bcell h1 rfl, bcell h1 rfl⟩
              clear he hnw hnl
              by_cases e1 : kd = 1
              · have m1 : Hid (kd = 1) := e1
                clear e1
                have q1 : (kd == (1 : Int)) = true := by simpa using m1.out
                by_cases hbx : bx = x
                · have hqx : (bx.toList == x.toList) = true := by rw [hbx]; simp
                  have HH : hit kd x key ⟨bx, bk, bq⟩ = true := by simp [hit, goes, hbx, m1.out]
                  have HQ : Hid (putT (puts (qs kd x key (bs.take k))) bq = puts (qs kd x key (bs.take (k + 1)))) := by unfold Hid; rw [qs_yes HG.out HH, puts_app]
                  have hln : (puts (qs kd x key (bs.take k))).length ≤ 1048576 := by have h1 := puts_len (qs kd x key (bs.take k)); have h2 := qs_len kd x key (bs.take k); rw [List.length_take] at h2; omega
                  obtain ⟨hbS, g, c, rfl, hle, hrow⟩ := hst.out.on hal
                  have hput := spec_put (puts (qs kd x key (bs.take k))) g c bq (wr.alloc (.cells #[.string bx, .string bk, .string bq] 46)) hln hle hrow
                  rw [HQ.out] at hput
                  clear hst HH hrow
                  try clear hbx
                  try clear hbk
                  go_wp2_with (go_at_call 19; fail)
                  refine hput.mono ?_
                  rintro e w5 ⟨g5, c5, rfl, hle5, hrow5, hb5⟩
                  have HN : Hid (St W (puts (qs kd x key (bs.take (k + 1)))) (.slice (some ⟨g5, 0, none⟩) (puts (qs kd x key (bs.take (k + 1)))).length c5) w5) := ⟨hbS.trans (hb5.mono hbS.size), g5, c5, rfl, hle5, hrow5⟩
                  clear hput hrow5
                  go_wp2
                  go_roundw
                  case rel => exact ⟨k + 1, by omega, by go_num, HN⟩
                  case measure => simp [intOf]; omega
                · have hqx : (bx.toList == x.toList) = false := by simp only [beq_eq_false_iff_ne, ne_eq]; exact fun e => hbx (of_same e)
                  have HH : hit kd x key ⟨bx, bk, bq⟩ = false := by simp [hit, hbx]
                  have HN : Hid (St W (puts (qs kd x key (bs.take (k + 1)))) u8 (wr.alloc (.cells #[.string bx, .string bk, .string bq] 46))) := by
                    unfold Hid
                    rw [qs_no HG.out HH]
                    exact hst.out.on hal
                  clear hst HH
                  try clear hbx
                  try clear hbk
                  go_wp2
                  go_roundw
                  case rel => exact ⟨k + 1, by omega, by go_num, HN⟩
                  case measure => simp [intOf]; omega
              have m1 : Hid (¬ kd = 1) := e1
              clear e1
              have q1 : (kd == (1 : Int)) = false := by simpa using m1.out
              by_cases e0 : kd = 0
              · have m0 : Hid (kd = 0) := e0
                clear e0
                have q0 : (kd == (0 : Int)) = true := by simpa using m0.out
                have q2 : (kd == (2 : Int)) = false := by rw [m0.out]; rfl
                by_cases hbk : bk = key
                · have hqk : (bk.toList == key.toList) = true := by rw [hbk]; simp
                  by_cases hbx : bx = x
                  · have hqx : (bx.toList == x.toList) = true := by rw [hbx]; simp
                    have HH : hit kd x key ⟨bx, bk, bq⟩ = true := by simp [hit, goes, hbx, hbk, m0.out]
                    have HQ : Hid (putT (puts (qs kd x key (bs.take k))) bq = puts (qs kd x key (bs.take (k + 1)))) := by unfold Hid; rw [qs_yes HG.out HH, puts_app]
                    have hln : (puts (qs kd x key (bs.take k))).length ≤ 1048576 := by have h1 := puts_len (qs kd x key (bs.take k)); have h2 := qs_len kd x key (bs.take k); rw [List.length_take] at h2; omega
                    obtain ⟨hbS, g, c, rfl, hle, hrow⟩ := hst.out.on hal
                    have hput := spec_put (puts (qs kd x key (bs.take k))) g c bq (wr.alloc (.cells #[.string bx, .string bk, .string bq] 46)) hln hle hrow
                    rw [HQ.out] at hput
                    clear hst HH hrow
                    try clear hbx
                    try clear hbk
                    go_wp2_with (go_at_call 19; fail)
                    refine hput.mono ?_
                    rintro e w5 ⟨g5, c5, rfl, hle5, hrow5, hb5⟩
                    have HN : Hid (St W (puts (qs kd x key (bs.take (k + 1)))) (.slice (some ⟨g5, 0, none⟩) (puts (qs kd x key (bs.take (k + 1)))).length c5) w5) := ⟨hbS.trans (hb5.mono hbS.size), g5, c5, rfl, hle5, hrow5⟩
                    clear hput hrow5
                    go_wp2
                    go_roundw
                    case rel => exact ⟨k + 1, by omega, by go_num, HN⟩
                    case measure => simp [intOf]; omega
                  · have hqx : (bx.toList == x.toList) = false := by simp only [beq_eq_false_iff_ne, ne_eq]; exact fun e => hbx (of_same e)
                    have HH : hit kd x key ⟨bx, bk, bq⟩ = false := by simp [hit, hbx]
                    have HN : Hid (St W (puts (qs kd x key (bs.take (k + 1)))) u8 (wr.alloc (.cells #[.string bx, .string bk, .string bq] 46))) := by
                      unfold Hid
                      rw [qs_no HG.out HH]
                      exact hst.out.on hal
                    clear hst HH
                    try clear hbx
                    try clear hbk
                    go_wp2
                    go_roundw
                    case rel => exact ⟨k + 1, by omega, by go_num, HN⟩
                    case measure => simp [intOf]; omega
                · have hqk : (bk.toList == key.toList) = false := by simp only [beq_eq_false_iff_ne, ne_eq]; exact fun e => hbk (of_same e)
                  by_cases hbx : bx = x
                  · have hqx : (bx.toList == x.toList) = true := by rw [hbx]; simp
                    have HH : hit kd x key ⟨bx, bk, bq⟩ = false := by simp [hit, goes, hbk, m0.out]
                    have HN : Hid (St W (puts (qs kd x key (bs.take (k + 1)))) u8 (wr.alloc (.cells #[.string bx, .string bk, .string bq] 46))) := by
                      unfold Hid
                      rw [qs_no HG.out HH]
                      exact hst.out.on hal
                    clear hst HH
                    try clear hbx
                    try clear hbk
                    go_wp2
                    go_roundw
                    case rel => exact ⟨k + 1, by omega, by go_num, HN⟩
                    case measure => simp [intOf]; omega
                  · have hqx : (bx.toList == x.toList) = false := by simp only [beq_eq_false_iff_ne, ne_eq]; exact fun e => hbx (of_same e)
                    have HH : hit kd x key ⟨bx, bk, bq⟩ = false := by simp [hit, hbx]
                    have HN : Hid (St W (puts (qs kd x key (bs.take (k + 1)))) u8 (wr.alloc (.cells #[.string bx, .string bk, .string bq] 46))) := by
                      unfold Hid
                      rw [qs_no HG.out HH]
                      exact hst.out.on hal
                    clear hst HH
                    try clear hbx
                    try clear hbk
                    go_wp2
                    go_roundw
                    case rel => exact ⟨k + 1, by omega, by go_num, HN⟩
                    case measure => simp [intOf]; omega
              have m0 : Hid (¬ kd = 0) := e0
              clear e0
              have q0 : (kd == (0 : Int)) = false := by simpa using m0.out
              by_cases e2 : kd = 2
              · have m2 : Hid (kd = 2) := e2
                clear e2
                have q2 : (kd == (2 : Int)) = true := by simpa using m2.out
                have htp := ti.spec_topic bk key (wr.alloc (.cells #[.string bx, .string bk, .string bq] 46)) hsz.2.1 hkey
                obtain ⟨tb, htb⟩ : ∃ tb, tp.topic bk key = tb := ⟨_, rfl⟩
                rw [htb] at htp
                go_wp2_with (go_at_call 18; fail)
                refine htp.mono ?_
                rintro e w4 ⟨rfl, hb4⟩
                obtain ⟨g0, g1, g2⟩ := HBX.out w4 hb4
                have hal4 : Below wr.heap.size wr w4 := hal.trans (hb4.mono hal.size)
                have HTB : Hid (tp.topic bk key = tb) := htb
                clear htp htb f0 f1 f2
                cases tb with
                | true =>
                  by_cases hbx : bx = x
                  · have hqx : (bx.toList == x.toList) = true := by rw [hbx]; simp
                    have HH : hit kd x key ⟨bx, bk, bq⟩ = true := by simp [hit, goes, hbx, HTB.out, m2.out]
                    have HQ : Hid (putT (puts (qs kd x key (bs.take k))) bq = puts (qs kd x key (bs.take (k + 1)))) := by unfold Hid; rw [qs_yes HG.out HH, puts_app]
                    have hln : (puts (qs kd x key (bs.take k))).length ≤ 1048576 := by have h1 := puts_len (qs kd x key (bs.take k)); have h2 := qs_len kd x key (bs.take k); rw [List.length_take] at h2; omega
                    obtain ⟨hbS, g, c, rfl, hle, hrow⟩ := hst.out.on hal4
                    have hput := spec_put (puts (qs kd x key (bs.take k))) g c bq w4 hln hle hrow
                    rw [HQ.out] at hput
                    clear hst HH hrow
                    try clear hbx
                    try clear hbk
                    go_wp2_with (go_at_call 19; fail)
                    refine hput.mono ?_
                    rintro e w5 ⟨g5, c5, rfl, hle5, hrow5, hb5⟩
                    have HN : Hid (St W (puts (qs kd x key (bs.take (k + 1)))) (.slice (some ⟨g5, 0, none⟩) (puts (qs kd x key (bs.take (k + 1)))).length c5) w5) := ⟨hbS.trans (hb5.mono hbS.size), g5, c5, rfl, hle5, hrow5⟩
                    clear hput hrow5
                    go_wp2
                    go_roundw
                    case rel => exact ⟨k + 1, by omega, by go_num, HN⟩
                    case measure => simp [intOf]; omega
                  · have hqx : (bx.toList == x.toList) = false := by simp only [beq_eq_false_iff_ne, ne_eq]; exact fun e => hbx (of_same e)
                    have HH : hit kd x key ⟨bx, bk, bq⟩ = false := by simp [hit, hbx]
                    have HN : Hid (St W (puts (qs kd x key (bs.take (k + 1)))) u8 w4) := by
                      unfold Hid
                      rw [qs_no HG.out HH]
                      exact hst.out.on hal4
                    clear hst HH
                    try clear hbx
                    try clear hbk
                    go_wp2
                    go_roundw
                    case rel => exact ⟨k + 1, by omega, by go_num, HN⟩
                    case measure => simp [intOf]; omega
                | false =>
                  by_cases hbx : bx = x
                  · have hqx : (bx.toList == x.toList) = true := by rw [hbx]; simp
                    have HH : hit kd x key ⟨bx, bk, bq⟩ = false := by simp [hit, goes, HTB.out, m2.out]
                    have HN : Hid (St W (puts (qs kd x key (bs.take (k + 1)))) u8 w4) := by
                      unfold Hid
                      rw [qs_no HG.out HH]
                      exact hst.out.on hal4
                    clear hst HH
                    try clear hbx
                    try clear hbk
                    go_wp2
                    go_roundw
                    case rel => exact ⟨k + 1, by omega, by go_num, HN⟩
                    case measure => simp [intOf]; omega
                  · have hqx : (bx.toList == x.toList) = false := by simp only [beq_eq_false_iff_ne, ne_eq]; exact fun e => hbx (of_same e)
                    have HH : hit kd x key ⟨bx, bk, bq⟩ = false := by simp [hit, hbx]
                    have HN : Hid (St W (puts (qs kd x key (bs.take (k + 1)))) u8 w4) := by
                      unfold Hid
                      rw [qs_no HG.out HH]
                      exact hst.out.on hal4
                    clear hst HH
                    try clear hbx
                    try clear hbk
                    go_wp2
                    go_roundw
                    case rel => exact ⟨k + 1, by omega, by go_num, HN⟩
                    case measure => simp [intOf]; omega
              have m2 : Hid (¬ kd = 2) := e2
              clear e2
              have q2 : (kd == (2 : Int)) = false := by simpa using m2.out
              by_cases hbx : bx = x
              · have hqx : (bx.toList == x.toList) = true := by rw [hbx]; simp
                have HH : hit kd x key ⟨bx, bk, bq⟩ = false := by simp [hit, goes, m0.out, m1.out, m2.out]
                have HN : Hid (St W (puts (qs kd x key (bs.take (k + 1)))) u8 (wr.alloc (.cells #[.string bx, .string bk, .string bq] 46))) := by
                  unfold Hid
                  rw [qs_no HG.out HH]
                  exact hst.out.on hal
                clear hst HH
                try clear hbx
                try clear hbk
                go_wp2
                go_roundw
                case rel => exact ⟨k + 1, by omega, by go_num, HN⟩
                case measure => simp [intOf]; omega
              · have hqx : (bx.toList == x.toList) = false := by simp only [beq_eq_false_iff_ne, ne_eq]; exact fun e => hbx (of_same e)
                have HH : hit kd x key ⟨bx, bk, bq⟩ = false := by simp [hit, hbx]
                have HN : Hid (St W (puts (qs kd x key (bs.take (k + 1)))) u8 (wr.alloc (.cells #[.string bx, .string bk, .string bq] 46))) := by
                  unfold Hid
                  rw [qs_no HG.out HH]
                  exact hst.out.on hal
                clear hst HH
                try clear hbx
                try clear hbk
                go_wp2
                go_roundw
                case rel => exact ⟨k + 1, by omega, by go_num, HN⟩
                case measure => simp [intOf]; omega
            · obtain rfl : k = bs.length := by omega
              obtain ⟨h1, g, c, rfl, hle, hrow⟩ := hst.out
              rw [List.take_length, ← HLQ.out] at hrow ⊢
              have HF : Hid (RS w L true (.returned (.tuple #[.slice (some ⟨g, 0, none⟩) L.length c, .bool true])) wr) := ⟨g, c, rfl, hrow, hbW.trans (h1.mono hbW.size)⟩
              clear hst hrow
              go_wp2
              go_ret2
              exact HF.out
end Go.Proofs.YtfhhcbjieekfdaaDoor.rsr
