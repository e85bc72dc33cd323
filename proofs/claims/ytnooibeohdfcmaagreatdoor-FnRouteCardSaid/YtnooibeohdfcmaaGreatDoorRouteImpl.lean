/- The program's RoutesOk: true just where the routes are in order; new memory alone. -/
import Derived.Test.YtnooibeohdfcmaaGreatDoorRouteSpec
namespace Go.Proofs.YtnooibeohdfcmaaGreatDoor.ri
open Go.ChangeShapes Go.WideShapes Go.ChangeAt Go.RowKit Go.Proofs.YtnooibeohdfcmaaGreatDoor.rc Go.Proofs.YtnooibeohdfcmaaGreatDoor.rr Go.Proofs.YtnooibeohdfcmaaGreatDoor.rf Go.Proofs.YtnooibeohdfcmaaGreatDoor.rs Go.Proofs.YtnooibeohdfcmaaGreatDoor.ro Go.Proofs.YtnooibeohdfcmaaGreatDoor.rk
set_option linter.unusedVariables false

theorem find_ex (es : List Ex) (g c : Nat) (name : ByteArray) (w : World) (hl : es.length ≤ 1048576) (hE : RE w g es) (hU : UpE es es.length) (ga : Option Addr) (hga : Hid (apa.NQ ga ⟨g, 0, none⟩ es.length c)) :
    Calls Tryz.prog 46 #[.slice ga es.length c, .string name] w fun r w' => (∃ (p : Nat) (b : Bool), r = .returned (.tuple #[.int .i64 p, .bool b]) ∧ PosE es name p ∧ (b = true ↔ ∃ (t : Nat) (a : Ex), es[t]? = some a ∧ a.n = name)) ∧ Below w.heap.size w w' := by
  have hs := search_ex es g c name w hl hE (up_mon hU name) ga hga
  have HU : Hid (UpE es es.length) := hU
  clear hE hU
  go_enter Tryz.func46, Tryz.ntmps46
  go_wp2_with (go_at_call 69; refine hs.mono ?_; rintro e w1 ⟨⟨p, b, rfl, hp, hb⟩, hb1⟩)
  go_ret2
  exact ⟨⟨p, b, rfl, hp, hb.trans (found HU.out hp)⟩, hb1⟩

set_option maxRecDepth 100000 in
set_option maxHeartbeats 4000000 in
theorem impl_routes (es : List Ex) (bs : List Bi) (ge ce gb cb : Nat) (w : World) (hel : es.length ≤ 1048576) (hbl : bs.length ≤ 1048576) (hes : ∀ e ∈ es, e.n.size ≤ 1048576) (hbs : ∀ b ∈ bs, b.x.size ≤ 1048576 ∧ b.k.size ≤ 1048576 ∧ b.q.size ≤ 1048576) (hE : RE w ge es) (hB : RB w gb bs) (ea ba : Option Addr) (hea : Hid (apa.NQ ea ⟨ge, 0, none⟩ es.length ce)) (hba : Hid (apa.NQ ba ⟨gb, 0, none⟩ bs.length cb)) :
    Calls Tryz.prog 16 #[.agg #[.slice ea es.length ce, .slice ba bs.length cb]] w fun r w' => (∃ b : Bool, r = .returned (.bool b) ∧ (b = true ↔ OkR es bs)) ∧ Below w.heap.size w w' := by
  have hb : Below w.heap.size w (w.alloc (.cells #[.slice ea es.length ce, .slice ba bs.length cb] 27)) := (Below.refl _ _).alloc (Nat.le_refl _) _
  have hRb := heap_alloc_new w (.cells #[.slice ea es.length ce, .slice ba bs.length cb] 27)
  have HE : Hid (RE (w.alloc (.cells #[.slice ea es.length ce, .slice ba bs.length cb] 27)) ge es) := hE.below hb
  have HB : Hid (RB (w.alloc (.cells #[.slice ea es.length ce, .slice ba bs.length cb] 27)) gb bs) := hB.below hb
  have hlt : w.heap.size < (w.alloc (.cells #[.slice ea es.length ce, .slice ba bs.length cb] 27)).heap.size := by simp
  obtain ⟨W, hW⟩ : ∃ W, w.alloc (.cells #[.slice ea es.length ce, .slice ba bs.length cb] 27) = W := ⟨_, rfl⟩
  rw [hW] at hb hRb HE HB hlt
  have HRb : Hid (W.heap[w.heap.size]? = some (.cells #[.slice ea es.length ce, .slice ba bs.length cb] 27 (0, 0))) := hRb
  have HES : Hid (∀ e ∈ es, e.n.size ≤ 1048576) := hes
  have HBS : Hid (∀ b ∈ bs, b.x.size ≤ 1048576 ∧ b.k.size ≤ 1048576 ∧ b.q.size ≤ 1048576) := hbs
  have box : ∀ wr, Below W.heap.size W wr → wr.cell? ⟨w.heap.size, 0, none⟩ = some (.slice ea es.length ce) ∧ wr.cell? ⟨w.heap.size, 1, none⟩ = some (.slice ba bs.length cb) := fun wr h => by
    have h1 := (h.block w.heap.size hlt).trans HRb.out
    exact ⟨by simp [World.cell?, h1], by simp [World.cell?, h1]⟩
  have BOX : Hid (∀ wr, Below W.heap.size W wr → wr.cell? ⟨w.heap.size, 0, none⟩ = some (.slice ea es.length ce) ∧ wr.cell? ⟨w.heap.size, 1, none⟩ = some (.slice ba bs.length cb)) := box
  clear hE hB hRb hes hbs box
  obtain ⟨s0, s1⟩ := BOX.out W (Below.refl _ _)
  by_cases h1 : 60 < es.length
  · have d1 : decide ((60 : Int) < (es.length : Int)) = true := by simp; omega
    go_enter Tryz.func16, Tryz.ntmps16
    go_wp2
    go_ret
    exact ⟨⟨false, rfl, by simp; exact fun h => by have := h.el; omega⟩, hb⟩
  by_cases h2 : 60 < bs.length
  · have d1 : decide ((60 : Int) < (es.length : Int)) = false := by simp; omega
    have d2 : decide ((60 : Int) < (bs.length : Int)) = true := by simp; omega
    go_enter Tryz.func16, Tryz.ntmps16
    go_wp2
    go_ret
    exact ⟨⟨false, rfl, by simp; exact fun h => by have := h.bl; omega⟩, hb⟩
  have d1 : decide ((60 : Int) < (es.length : Int)) = false := by simp; omega
  have d2 : decide ((60 : Int) < (bs.length : Int)) = false := by simp; omega
  go_enter Tryz.func16, Tryz.ntmps16
  go_wp2
  clear hW d1 d2 s0 s1
  go_loopw [22, 4] (fun v _ wr => ∃ k : Nat, k ≤ es.length ∧ v = .int .i64 k ∧ Hid (∀ (i : Nat) e, i < k → es[i]? = some e → exOk e = true) ∧ Below W.heap.size W wr) (fun v _ _ => es.length - (intOf v).toNat)
  case atStart => exact ⟨0, Nat.zero_le _, rfl, fun i e h => by omega, Below.refl _ _⟩
  case round =>
    obtain ⟨k, hk, rfl, hgood, hbel⟩ := hrel
    have hbsz := hbel.size
    by_cases hkl : k < es.length
    · have g0 : es[k]? = some es[k] := List.getElem?_eq_getElem hkl
      have hqa : ea = some ⟨ge, 0, none⟩ := hea.out.at (by omega)
      have hsz := HES.out es[k] (List.getElem_mem hkl)
      obtain ⟨a0, a1⟩ := (HE.out.below hbel).2 k _ g0
      have HG : Hid (es[k]? = some es[k]) := g0
      obtain ⟨⟨en, ek⟩, he⟩ : ∃ e, es[k] = e := ⟨_, rfl⟩
      rw [he] at a0 a1 HG hsz
      have hok := exchange_ok ⟨en, ek⟩ (wr.alloc (.cells #[.string en, .int .i64 ek] 75)) hsz
      clear g0 he
      cases hx : exOk ⟨en, ek⟩ with
      | false =>
        rw [hx] at hok
        have hbad : ¬ OkR es bs := bad_ex HG.out hx
        go_wp2_with (go_at_call 49; refine hok.mono ?_; rintro e w1 ⟨rfl, hb1⟩)
        go_ret
        exact ⟨⟨false, rfl, by simp; exact hbad⟩, hb.trans (((hbel.alloc hbsz _).trans (hb1.mono (by simp; omega))).mono hb.size)⟩
      | true =>
        rw [hx] at hok
        have hnext : Hid (∀ (i : Nat) e, i < k + 1 → es[i]? = some e → exOk e = true) := fun i e hi he => by
          by_cases ei : i = k
          · subst ei; rw [HG.out] at he; cases he; exact hx
          · exact hgood.out i e (by omega) he
        go_wp2_with (go_at_call 49; refine hok.mono ?_; rintro e w1 ⟨rfl, hb1⟩)
        try rw [← hqa]
        try rw [← hqb]
        go_roundw
        case rel => exact ⟨k + 1, by omega, by go_num, hnext, (hbel.alloc hbsz _).trans (hb1.mono (by simp; omega))⟩
        case measure => simp [intOf]; omega
    · obtain rfl : k = es.length := by omega
      obtain ⟨c0, c1⟩ := BOX.out wr hbel
      have hae := asc_ex es ge ce wr hel (HE.out.below hbel) ea hea
      have HAO : Hid (∀ (i : Nat) e, es[i]? = some e → exOk e = true) := fun i e he => hgood.out i e (List.getElem?_eq_some_iff.1 he).1 he
      clear hgood
      go_wp2_with (go_at_call 50; fail)
      refine hae.mono ?_
      rintro e w1 ⟨⟨b1, rfl, hb1e⟩, hb1⟩
      have hbel1 : Below W.heap.size W w1 := hbel.trans (hb1.mono hbsz)
      obtain ⟨c0', c1'⟩ := BOX.out w1 hbel1
      clear hae c0 c1
      cases b1 with
      | false =>
        have hbad : ¬ OkR es bs := fun h => by have := hb1e.2 h.eu; cases this
        go_wp2
        go_ret
        exact ⟨⟨false, rfl, by simp; exact hbad⟩, hb.trans (hbel1.mono hb.size)⟩
      | true =>
        have HUE : Hid (UpE es es.length) := hb1e.1 rfl
        have hab := asc_bi bs gb cb w1 hbl (HB.out.below hbel1) ba hba
        clear hb1e
        go_wp2_with (go_at_call 52; fail)
        refine hab.mono ?_
        rintro e w2 ⟨⟨b2, rfl, hb2e⟩, hb2⟩
        have hbel2 : Below W.heap.size W w2 := hbel1.trans (hb2.mono hbel1.size)
        obtain ⟨c0'', c1''⟩ := BOX.out w2 hbel2
        clear hab c0' c1'
        cases b2 with
        | false =>
          have hbad : ¬ OkR es bs := fun h => by have := hb2e.2 h.bu; cases this
          go_wp2
          go_ret
          exact ⟨⟨false, rfl, by simp; exact hbad⟩, hb.trans (hbel2.mono hb.size)⟩
        | true =>
          have HUB : Hid (UpB bs bs.length) := hb2e.1 rfl
          clear hb2e hbel hbsz hbel1 hb1 hb2
          go_wp2
          go_loopw [43, 6, 7, 8] (fun v _ _ _ wq => ∃ k : Nat, k ≤ bs.length ∧ v = .int .i64 k ∧ Hid (∀ (i : Nat) b, i < k → bs[i]? = some b → 0 ≤ kindOf es b.x ∧ ky.good b.k = true ∧ nm.good b.q = true) ∧ Below W.heap.size W wq) (fun v _ _ _ _ => bs.length - (intOf v).toNat)
          case atStart => exact ⟨0, Nat.zero_le _, rfl, fun i e h => by omega, hbel2⟩
          case round =>
            obtain ⟨k, hk, rfl, hgood, hbel⟩ := hrel
            have hbsz := hbel.size
            obtain ⟨c0, c1⟩ := BOX.out wr hbel
            by_cases hkl : k < bs.length
            · have g0 : bs[k]? = some bs[k] := List.getElem?_eq_getElem hkl
              have hqb : ba = some ⟨gb, 0, none⟩ := hba.out.at (by omega)
              obtain ⟨z1, z2, z3⟩ := HBS.out bs[k] (List.getElem_mem hkl)
              obtain ⟨a0, a1, a2⟩ := (HB.out.below hbel).2 k _ g0
              have HG : Hid (bs[k]? = some bs[k]) := g0
              obtain ⟨⟨bx, bk, bq⟩, he⟩ : ∃ e, bs[k] = e := ⟨_, rfl⟩
              rw [he] at a0 a1 a2 HG z1 z2 z3
              have hbX : Below W.heap.size W (wr.alloc (.cells #[.string bx, .string bk, .string bq] 45)) := hbel.alloc hbsz _
              have hx1 := heap_alloc_new wr (.cells #[.string bx, .string bk, .string bq] 45)
              have hxl : wr.heap.size < (wr.alloc (.cells #[.string bx, .string bk, .string bq] 45)).heap.size := by simp
              obtain ⟨X1, hX1⟩ : ∃ X1, wr.alloc (.cells #[.string bx, .string bk, .string bq] 45) = X1 := ⟨_, rfl⟩
              rw [hX1] at hbX hx1 hxl
              obtain ⟨e0, e1⟩ := BOX.out X1 hbX
              have x0 : X1.cell? ⟨wr.heap.size, 0, none⟩ = some (.string bx) := by simp [World.cell?, hx1]
              have hfind := find_ex es ge ce bx X1 hel (HE.out.below hbX) HUE.out ea hea
              have kq := fun W => ky.impl_key bk W z2
              have kn := fun W => nm.impl_name bq W z3
              clear g0 he
              go_wp2_with (go_at_call 46; fail)
              refine hfind.mono ?_
              rintro e w3 ⟨⟨p, b3, rfl, hp3, hb3e⟩, hb3⟩
              have hbel3 : Below W.heap.size W w3 := hbX.trans (hb3.mono hbX.size)
              have y1 : w3.cell? ⟨wr.heap.size, 1, none⟩ = some (.string bk) := by
                have h1 := (hb3.block wr.heap.size hxl).trans hx1
                simp [World.cell?, h1]
              have y2 : w3.cell? ⟨wr.heap.size, 2, none⟩ = some (.string bq) := by
                have h1 := (hb3.block wr.heap.size hxl).trans hx1
                simp [World.cell?, h1]
              have hkind := kind_there (l := es) (fun i e he => by have := HAO.out i e he; simp [exOk] at this; exact this.2.1) bx
              have HK3 : Hid (b3 = true ↔ 0 ≤ kindOf es bx) := hb3e.trans hkind.symm
              clear hfind hX1 e0 e1 x0 hb3e hkind c0 c1 a0 a1 a2 hx1
              cases b3 with
              | false =>
                have hbad : ¬ OkR es bs := fun h => by have h1 : 0 ≤ kindOf es bx := (h.bo k _ HG.out).1; have := HK3.out.2 h1; cases this
                go_wp2
                go_ret
                exact ⟨⟨false, rfl, by simp; exact hbad⟩, hb.trans (hbel3.mono hb.size)⟩
              | true =>
                cases hgk : ky.good bk with
                | false =>
                  have hbad : ¬ OkR es bs := fun h => by have h2 : ky.good bk = true := (h.bo k _ HG.out).2.1; rw [hgk] at h2; cases h2
                  simp only [hgk] at kq
                  go_wp2_with (go_at_call 26; refine (kq _).mono ?_; rintro e w0 ⟨rfl, hw0⟩; rw [← hw0]; clear hw0 w0)
                  go_ret
                  exact ⟨⟨false, rfl, by simp; exact hbad⟩, hb.trans (hbel3.mono hb.size)⟩
                | true =>
                  simp only [hgk] at kq
                  cases hgq : nm.good bq with
                  | false =>
                    have hbad : ¬ OkR es bs := fun h => by have h2 : nm.good bq = true := (h.bo k _ HG.out).2.2; rw [hgq] at h2; cases h2
                    simp only [hgq] at kn
                    go_wp2_with (first | (go_at_call 26; refine (kq _).mono ?_; rintro e w0 ⟨rfl, hw0⟩; rw [← hw0]; clear hw0 w0) | (go_at_call 53; refine (kn _).mono ?_; rintro e w0 ⟨rfl, hw0⟩; rw [← hw0]; clear hw0 w0))
                    go_ret
                    exact ⟨⟨false, rfl, by simp; exact hbad⟩, hb.trans (hbel3.mono hb.size)⟩
                  | true =>
                    simp only [hgq] at kn
                    have hnext : Hid (∀ (i : Nat) b, i < k + 1 → bs[i]? = some b → 0 ≤ kindOf es b.x ∧ ky.good b.k = true ∧ nm.good b.q = true) := fun i e hi he => by
                      by_cases ei : i = k
                      · subst ei; rw [HG.out] at he; cases he; exact ⟨HK3.out.1 rfl, hgk, hgq⟩
                      · exact hgood.out i e (by omega) he
                    go_wp2_with (first | (go_at_call 26; refine (kq _).mono ?_; rintro e w0 ⟨rfl, hw0⟩; rw [← hw0]; clear hw0 w0) | (go_at_call 53; refine (kn _).mono ?_; rintro e w0 ⟨rfl, hw0⟩; rw [← hw0]; clear hw0 w0))
                    try rw [← hqa]
                    try rw [← hqb]
                    go_roundw
                    case rel => exact ⟨k + 1, by omega, by go_num, hnext, hbel3⟩
                    case measure => simp [intOf]; omega
            · have hall : Hid (OkR es bs) := ⟨by omega, by omega, HAO.out, HUE.out, fun i b hb => hgood.out i b (by have := (List.getElem?_eq_some_iff.1 hb).1; omega) hb, HUB.out⟩
              go_wp2
              go_ret
              exact ⟨⟨true, rfl, by simp; exact hall.out⟩, hb.trans (hbel.mono hb.size)⟩
end Go.Proofs.YtnooibeohdfcmaaGreatDoor.ri
