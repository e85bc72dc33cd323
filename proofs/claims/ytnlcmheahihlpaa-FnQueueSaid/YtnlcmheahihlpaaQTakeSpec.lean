/- The specification's l05Take: the held ones that are meant, and the rest. -/
import Derived.Test.YtnlcmheahihlpaaQDropPure
import Derived.Test.YtnlcmheahihlpaaCopyRows
import Derived.Deep.QuietTactic
import Derived.BigQuiet
namespace Go.Proofs.Ytnlcmheahihlpaa.qts
open Go.ChangeShapes Go.WideShapes Go.ChangeAt Go.RowKit Go.Proofs.Ytnlcmheahihlpaa.fl Go.Proofs.Ytnlcmheahihlpaa.qdp
set_option linter.unusedVariables false

theorem bdrewN {B : Nat} {a w : World} (h : Below B a w) (n : Nat) : Below B a (w.drewN n) := ⟨h.os, h.tape, h.output, h.size, h.block⟩
theorem all_low {W : World} {B B' : Nat} {v : Value} {l : List flH.Hd} (h : All W B v l) (hB : B' ≤ B) : All W B' v l := by
  rcases h with h | ⟨g, cap, h1, h2⟩
  · exact .inl h
  · exact .inr ⟨g, cap, h1, qsp.own_low h2 hB⟩
theorem tk_low {w W wr : World} {v u : Value} {l r : List flH.Hd} (h : Tk W W.heap.size v u l r wr) (hb : Below w.heap.size w W) : Tk w w.heap.size v u l r wr :=
  ⟨hb.trans (h.bel.mono hb.size), Nat.le_trans hb.size h.lo, all_low h.av hb.size, all_low h.au hb.size, h.ne, h.vl, h.ul⟩

set_option maxRecDepth 100000 in
set_option maxHeartbeats 2000000 in
theorem spec_take_true (nm : ByteArray) (nx : Int) (ra : Option Addr) (rn rc : Nat) (ms : List flH.Hd) (ha : Option Addr) (bc : Nat) (o t : Int) (w : World) (hml : ms.length ≤ 1048576) (hB : Row flH.c 7 w w.heap.size ha ms) :
    Calls Try.prog 27 #[.agg #[.string nm, .int .i64 nx, .slice ra rn rc, .slice ha ms.length bc], .int .i64 o, .int .i64 t, .bool true] w fun e w' => ∃ v u, e = .returned (.tuple #[v, u]) ∧ Tk w w.heap.size v u (gone o t true ms) (left o t true ms) w' := by
  have hWb : Below w.heap.size w (((w.alloc (.cells #[.string nm, .int .i64 nx, .slice ra rn rc, .slice ha ms.length bc] 27)).alloc (.cells #[] 55)).alloc (.cells #[] 55)) := (((Below.refl _ _).alloc (Nat.le_refl _) _).alloc (by simp) _).alloc (by simp; omega) _
  have hA := bold (bold (bnew w #[.string nm, .int .i64 nx, .slice ra rn rc, .slice ha ms.length bc] 27) (.cells #[] 55)) (.cells #[] 55)
  obtain ⟨W, hW⟩ : ∃ W, ((w.alloc (.cells #[.string nm, .int .i64 nx, .slice ra rn rc, .slice ha ms.length bc] 27)).alloc (.cells #[] 55)).alloc (.cells #[] 55) = W := ⟨_, rfl⟩
  have hWs : W.heap.size = w.heap.size + 3 := by rw [← hW]; simp
  rw [hW] at hWb hA
  have HBX : Hid (∀ V, Below W.heap.size W V → V.cell? ⟨w.heap.size, 3, none⟩ = some (.slice ha ms.length bc)) := fun V hV => bcell (bstay hA hV (by omega)) rfl
  have HC : Hid (∀ V, Below W.heap.size W V → ∀ (i : Nat) (e : flH.Hd), ms[i]? = some e → ∃ b0 o0, ha = some ⟨b0, o0, none⟩ ∧ ∀ (j : Nat) (v : Value), (flH.c e)[j]? = some v → V.cell? ⟨b0, o0 + i * 7 + j, none⟩ = some v) := fun V hV i e he => by
    rcases (hB.inn hWb).inn hV with h | ⟨b, off, hb, hlt, hc⟩
    · rw [h] at he; simp at he
    · exact ⟨b, off, hb, fun j v hv => hc i e he j v hv⟩
  have HT0 : Hid (Tk W W.heap.size (.slice (some ⟨w.heap.size + 1, 0, none⟩) 0 0) (.slice (some ⟨w.heap.size + 1 + 1, 0, none⟩) 0 0) (gone o t true (ms.take 0)) (left o t true (ms.take 0)) W) := ⟨Below.refl _ _, Nat.le_refl _, .inl ⟨by simp [gone], _, rfl, .inr ⟨_, rfl⟩⟩, .inl ⟨by simp [left], _, rfl, .inr ⟨_, rfl⟩⟩, fun g h1 h2 => by simp [Value.ownBlock] at h1 h2; omega, fun g h1 => by simp [Value.ownBlock] at h1; omega, fun g h1 => by simp [Value.ownBlock] at h1; omega⟩
  clear hA hB
  go_enter Try.func27, Try.ntmps27
  go_wp2
  clear hW
  go_loopw [10, 11, 12] (fun v u y wr => ∃ k : Nat, k ≤ ms.length ∧ y = .int .i64 k ∧ Hid (Tk W W.heap.size v u (gone o t true (ms.take k)) (left o t true (ms.take k)) wr)) (fun _ _ y _ => ms.length - (intOf y).toNat)
  case atStart => exact ⟨0, Nat.zero_le _, rfl, HT0⟩
  case round =>
    obtain ⟨k, hk, rfl, hst⟩ := hrel
    clear HT0
    have hbel := hst.out.bel
    have hlo := hst.out.lo
    have bx : wr.cell? ⟨w.heap.size, 3, none⟩ = some (.slice ha ms.length bc) := HBX.out wr hbel
    by_cases hkl : k < ms.length
    · have i2 : (k : Int) < (ms.length : Int) := by omega
      have HG : Hid (ms[k]? = some ms[k]) := List.getElem?_eq_getElem hkl
      obtain ⟨⟨ht, ho, ⟨q, x, y, z, ag⟩⟩, he⟩ : ∃ e, ms[k] = e := ⟨_, rfl⟩
      rw [he] at HG
      obtain ⟨b0, o0, hqh, cs⟩ := HC.out wr hbel k _ HG.out
      have c0 : wr.cell? ⟨b0, o0 + k * 7, none⟩ = some (.int .i64 ht) := cs 0 _ rfl
      have c1 : wr.cell? ⟨b0, o0 + k * 7 + 1, none⟩ = some (.int .i64 ho) := cs 1 _ rfl
      have c2 : wr.cell? ⟨b0, o0 + k * 7 + 2, none⟩ = some (.int .i64 q) := cs 2 _ rfl
      have c3 : wr.cell? ⟨b0, o0 + k * 7 + 3, none⟩ = some (.string x) := cs 3 _ rfl
      have c4 : wr.cell? ⟨b0, o0 + k * 7 + 4, none⟩ = some (.string y) := cs 4 _ rfl
      have c5 : wr.cell? ⟨b0, o0 + k * 7 + 5, none⟩ = some (.string z) := cs 5 _ rfl
      have c6 : wr.cell? ⟨b0, o0 + k * 7 + 6, none⟩ = some (.bool ag) := cs 6 _ rfl
      have HS : Hid (Tk W W.heap.size u10 u11 (gone o t true (ms.take k)) (left o t true (ms.take k)) wr) := hst.out
      clear he cs hst
      by_cases p1 : ho = o
      · obtain rfl : o = ho := p1.symm
        by_cases p2 : ht = t
        · obtain rfl : t = ht := p2.symm
          have hh : hit o t true ⟨t, o, ⟨q, x, y, z, ag⟩⟩ = true := by simp [hit]
          obtain ⟨e1, e2⟩ := both_yes HG.out hh
          have hal : Below wr.heap.size wr (wr.alloc (.cells #[.int .i64 t, .int .i64 o, .int .i64 q, .string x, .string y, .string z, .bool ag] 55)) := (Below.refl _ _).alloc (Nat.le_refl _) _
          have hal2 : Below (wr.alloc (.cells #[.int .i64 t, .int .i64 o, .int .i64 q, .string x, .string y, .string z, .bool ag] 55)).heap.size (wr.alloc (.cells #[.int .i64 t, .int .i64 o, .int .i64 q, .string x, .string y, .string z, .bool ag] 55)) ((wr.alloc (.cells #[.int .i64 t, .int .i64 o, .int .i64 q, .string x, .string y, .string z, .bool ag] 55)).alloc (.cells #[.int .i64 t, .int .i64 o, .int .i64 q, .string x, .string y, .string z, .bool ag] 55)) := (Below.refl _ _).alloc (Nat.le_refl _) _
          have hlen : (gone o t true (ms.take k)).length ≤ 1048576 := by have := gone_le o t true (ms.take k); rw [List.length_take] at this; omega
          obtain ⟨v', w', hrun, htk⟩ := Tk.app ⟨t, o, ⟨q, x, y, z, ag⟩⟩ (((HS.out.on hal).on hal2)) hlen (bnew (wr.alloc (.cells #[.int .i64 t, .int .i64 o, .int .i64 q, .string x, .string y, .string z, .bool ag] 55)) _ _) 25
          have HRUN : Hid ((Builtin.append_ #[25, 25] 25 #[u10, .slice (some ⟨(wr.alloc (.cells #[.int .i64 t, .int .i64 o, .int .i64 q, .string x, .string y, .string z, .bool ag] 55)).heap.size, 0, none⟩) 1 1]).run Try.prog ((wr.alloc (.cells #[.int .i64 t, .int .i64 o, .int .i64 q, .string x, .string y, .string z, .bool ag] 55)).alloc (.cells #[.int .i64 t, .int .i64 o, .int .i64 q, .string x, .string y, .string z, .bool ag] 55)) = .ok v' w') := hrun
          simp only [World.size_alloc] at HRUN
          have HN : Hid (Tk W W.heap.size v' u11 (gone o t true (ms.take (k + 1))) (left o t true (ms.take (k + 1))) w') := by
            unfold Hid
            rw [e1, e2]
            exact htk
          clear hrun htk hal hal2 HS e1 e2 hh 
          go_wp2_with (at_builtin; refine cpr.wpList_append_run rfl _ _ 25 25 rfl _ _ _ rfl rfl HRUN.out ?_)
          try rw [← hqh]
          clear hqh
          go_wp2
          go_roundw
          case rel => first | exact ⟨k + 1, by omega, by go_num, HN⟩ | exact ⟨_, _, _, ⟨k + 1, by omega, by go_num, by rw [← hWs]; exact HN⟩, rfl, rfl, rfl⟩
          case measure => simp [intOf]; omega
        · have q2 : (ht == t) = false := by simpa using p2
          by_cases p5 : ht < t
          · have q3 : decide (ht < t) = true := by simpa using p5
            have p4 := p2
            have p6 := p5
            have hh : hit o t true ⟨ht, o, ⟨q, x, y, z, ag⟩⟩ = true := by simp [hit, p4, p6]
            obtain ⟨e1, e2⟩ := both_yes HG.out hh
            have hal : Below wr.heap.size wr (wr.alloc (.cells #[.int .i64 ht, .int .i64 o, .int .i64 q, .string x, .string y, .string z, .bool ag] 55)) := (Below.refl _ _).alloc (Nat.le_refl _) _
            have hal2 : Below (wr.alloc (.cells #[.int .i64 ht, .int .i64 o, .int .i64 q, .string x, .string y, .string z, .bool ag] 55)).heap.size (wr.alloc (.cells #[.int .i64 ht, .int .i64 o, .int .i64 q, .string x, .string y, .string z, .bool ag] 55)) ((wr.alloc (.cells #[.int .i64 ht, .int .i64 o, .int .i64 q, .string x, .string y, .string z, .bool ag] 55)).alloc (.cells #[.int .i64 ht, .int .i64 o, .int .i64 q, .string x, .string y, .string z, .bool ag] 55)) := (Below.refl _ _).alloc (Nat.le_refl _) _
            have hlen : (gone o t true (ms.take k)).length ≤ 1048576 := by have := gone_le o t true (ms.take k); rw [List.length_take] at this; omega
            obtain ⟨v', w', hrun, htk⟩ := Tk.app ⟨ht, o, ⟨q, x, y, z, ag⟩⟩ (((HS.out.on hal).on hal2)) hlen (bnew (wr.alloc (.cells #[.int .i64 ht, .int .i64 o, .int .i64 q, .string x, .string y, .string z, .bool ag] 55)) _ _) 25
            have HRUN : Hid ((Builtin.append_ #[25, 25] 25 #[u10, .slice (some ⟨(wr.alloc (.cells #[.int .i64 ht, .int .i64 o, .int .i64 q, .string x, .string y, .string z, .bool ag] 55)).heap.size, 0, none⟩) 1 1]).run Try.prog ((wr.alloc (.cells #[.int .i64 ht, .int .i64 o, .int .i64 q, .string x, .string y, .string z, .bool ag] 55)).alloc (.cells #[.int .i64 ht, .int .i64 o, .int .i64 q, .string x, .string y, .string z, .bool ag] 55)) = .ok v' w') := hrun
            simp only [World.size_alloc] at HRUN
            have HN : Hid (Tk W W.heap.size v' u11 (gone o t true (ms.take (k + 1))) (left o t true (ms.take (k + 1))) w') := by
              unfold Hid
              rw [e1, e2]
              exact htk
            clear hrun htk hal hal2 HS e1 e2 hh p4 p6
            go_wp2_with (at_builtin; refine cpr.wpList_append_run rfl _ _ 25 25 rfl _ _ _ rfl rfl HRUN.out ?_)
            try rw [← hqh]
            clear hqh
            go_wp2
            go_roundw
            case rel => first | exact ⟨k + 1, by omega, by go_num, HN⟩ | exact ⟨_, _, _, ⟨k + 1, by omega, by go_num, by rw [← hWs]; exact HN⟩, rfl, rfl, rfl⟩
            case measure => simp [intOf]; omega
          · have q3 : decide (ht < t) = false := by simpa using p5
            have p4 := p2
            have p6 := p5
            have hh : hit o t true ⟨ht, o, ⟨q, x, y, z, ag⟩⟩ = false := by simp [hit, p4, p6]
            obtain ⟨e1, e2⟩ := both_no HG.out hh
            have hal : Below wr.heap.size wr (wr.alloc (.cells #[.int .i64 ht, .int .i64 o, .int .i64 q, .string x, .string y, .string z, .bool ag] 55)) := (Below.refl _ _).alloc (Nat.le_refl _) _
            have hal2 : Below (wr.alloc (.cells #[.int .i64 ht, .int .i64 o, .int .i64 q, .string x, .string y, .string z, .bool ag] 55)).heap.size (wr.alloc (.cells #[.int .i64 ht, .int .i64 o, .int .i64 q, .string x, .string y, .string z, .bool ag] 55)) ((wr.alloc (.cells #[.int .i64 ht, .int .i64 o, .int .i64 q, .string x, .string y, .string z, .bool ag] 55)).alloc (.cells #[.int .i64 ht, .int .i64 o, .int .i64 q, .string x, .string y, .string z, .bool ag] 55)) := (Below.refl _ _).alloc (Nat.le_refl _) _
            have hlen : (left o t true (ms.take k)).length ≤ 1048576 := by have := left_le o t true (ms.take k); rw [List.length_take] at this; omega
            obtain ⟨v', w', hrun, htk⟩ := Tk.app ⟨ht, o, ⟨q, x, y, z, ag⟩⟩ (((HS.out.on hal).on hal2).swap) hlen (bnew (wr.alloc (.cells #[.int .i64 ht, .int .i64 o, .int .i64 q, .string x, .string y, .string z, .bool ag] 55)) _ _) 25
            have HRUN : Hid ((Builtin.append_ #[25, 25] 25 #[u11, .slice (some ⟨(wr.alloc (.cells #[.int .i64 ht, .int .i64 o, .int .i64 q, .string x, .string y, .string z, .bool ag] 55)).heap.size, 0, none⟩) 1 1]).run Try.prog ((wr.alloc (.cells #[.int .i64 ht, .int .i64 o, .int .i64 q, .string x, .string y, .string z, .bool ag] 55)).alloc (.cells #[.int .i64 ht, .int .i64 o, .int .i64 q, .string x, .string y, .string z, .bool ag] 55)) = .ok v' w') := hrun
            simp only [World.size_alloc] at HRUN
            have HN : Hid (Tk W W.heap.size u10 v' (gone o t true (ms.take (k + 1))) (left o t true (ms.take (k + 1))) w') := by
              unfold Hid
              rw [e1, e2]
              exact htk.swap
            clear hrun htk hal hal2 HS e1 e2 hh p4 p6
            go_wp2_with (at_builtin; refine cpr.wpList_append_run rfl _ _ 25 25 rfl _ _ _ rfl rfl HRUN.out ?_)
            try rw [← hqh]
            clear hqh
            go_wp2
            go_roundw
            case rel => first | exact ⟨k + 1, by omega, by go_num, HN⟩ | exact ⟨_, _, _, ⟨k + 1, by omega, by go_num, by rw [← hWs]; exact HN⟩, rfl, rfl, rfl⟩
            case measure => simp [intOf]; omega
      · have q1 : (ho == o) = false := by simpa using p1
        have p3 := p1
        have hh : hit o t true ⟨ht, ho, ⟨q, x, y, z, ag⟩⟩ = false := by simp [hit, p3]
        obtain ⟨e1, e2⟩ := both_no HG.out hh
        have hal : Below wr.heap.size wr (wr.alloc (.cells #[.int .i64 ht, .int .i64 ho, .int .i64 q, .string x, .string y, .string z, .bool ag] 55)) := (Below.refl _ _).alloc (Nat.le_refl _) _
        have hal2 : Below (wr.alloc (.cells #[.int .i64 ht, .int .i64 ho, .int .i64 q, .string x, .string y, .string z, .bool ag] 55)).heap.size (wr.alloc (.cells #[.int .i64 ht, .int .i64 ho, .int .i64 q, .string x, .string y, .string z, .bool ag] 55)) ((wr.alloc (.cells #[.int .i64 ht, .int .i64 ho, .int .i64 q, .string x, .string y, .string z, .bool ag] 55)).alloc (.cells #[.int .i64 ht, .int .i64 ho, .int .i64 q, .string x, .string y, .string z, .bool ag] 55)) := (Below.refl _ _).alloc (Nat.le_refl _) _
        have hlen : (left o t true (ms.take k)).length ≤ 1048576 := by have := left_le o t true (ms.take k); rw [List.length_take] at this; omega
        obtain ⟨v', w', hrun, htk⟩ := Tk.app ⟨ht, ho, ⟨q, x, y, z, ag⟩⟩ (((HS.out.on hal).on hal2).swap) hlen (bnew (wr.alloc (.cells #[.int .i64 ht, .int .i64 ho, .int .i64 q, .string x, .string y, .string z, .bool ag] 55)) _ _) 25
        have HRUN : Hid ((Builtin.append_ #[25, 25] 25 #[u11, .slice (some ⟨(wr.alloc (.cells #[.int .i64 ht, .int .i64 ho, .int .i64 q, .string x, .string y, .string z, .bool ag] 55)).heap.size, 0, none⟩) 1 1]).run Try.prog ((wr.alloc (.cells #[.int .i64 ht, .int .i64 ho, .int .i64 q, .string x, .string y, .string z, .bool ag] 55)).alloc (.cells #[.int .i64 ht, .int .i64 ho, .int .i64 q, .string x, .string y, .string z, .bool ag] 55)) = .ok v' w') := hrun
        simp only [World.size_alloc] at HRUN
        have HN : Hid (Tk W W.heap.size u10 v' (gone o t true (ms.take (k + 1))) (left o t true (ms.take (k + 1))) w') := by
          unfold Hid
          rw [e1, e2]
          exact htk.swap
        clear hrun htk hal hal2 HS e1 e2 hh p3
        go_wp2_with (at_builtin; refine cpr.wpList_append_run rfl _ _ 25 25 rfl _ _ _ rfl rfl HRUN.out ?_)
        try rw [← hqh]
        clear hqh
        go_wp2
        go_roundw
        case rel => first | exact ⟨k + 1, by omega, by go_num, HN⟩ | exact ⟨_, _, _, ⟨k + 1, by omega, by go_num, by rw [← hWs]; exact HN⟩, rfl, rfl, rfl⟩
        case measure => simp [intOf]; omega
    · obtain rfl : k = ms.length := by omega
      rw [List.take_length] at hst
      have HF : Hid (Tk w w.heap.size u10 u11 (gone o t true ms) (left o t true ms) wr) := tk_low hst.out hWb
      clear hst
      go_wp2
      go_ret2
      exact ⟨_, _, rfl, HF.out⟩

set_option maxRecDepth 100000 in
set_option maxHeartbeats 2000000 in
theorem spec_take_false (nm : ByteArray) (nx : Int) (ra : Option Addr) (rn rc : Nat) (ms : List flH.Hd) (ha : Option Addr) (bc : Nat) (o t : Int) (w : World) (hml : ms.length ≤ 1048576) (hB : Row flH.c 7 w w.heap.size ha ms) :
    Calls Try.prog 27 #[.agg #[.string nm, .int .i64 nx, .slice ra rn rc, .slice ha ms.length bc], .int .i64 o, .int .i64 t, .bool false] w fun e w' => ∃ v u, e = .returned (.tuple #[v, u]) ∧ Tk w w.heap.size v u (gone o t false ms) (left o t false ms) w' := by
  have hWb : Below w.heap.size w (((w.alloc (.cells #[.string nm, .int .i64 nx, .slice ra rn rc, .slice ha ms.length bc] 27)).alloc (.cells #[] 55)).alloc (.cells #[] 55)) := (((Below.refl _ _).alloc (Nat.le_refl _) _).alloc (by simp) _).alloc (by simp; omega) _
  have hA := bold (bold (bnew w #[.string nm, .int .i64 nx, .slice ra rn rc, .slice ha ms.length bc] 27) (.cells #[] 55)) (.cells #[] 55)
  obtain ⟨W, hW⟩ : ∃ W, ((w.alloc (.cells #[.string nm, .int .i64 nx, .slice ra rn rc, .slice ha ms.length bc] 27)).alloc (.cells #[] 55)).alloc (.cells #[] 55) = W := ⟨_, rfl⟩
  have hWs : W.heap.size = w.heap.size + 3 := by rw [← hW]; simp
  rw [hW] at hWb hA
  have HBX : Hid (∀ V, Below W.heap.size W V → V.cell? ⟨w.heap.size, 3, none⟩ = some (.slice ha ms.length bc)) := fun V hV => bcell (bstay hA hV (by omega)) rfl
  have HC : Hid (∀ V, Below W.heap.size W V → ∀ (i : Nat) (e : flH.Hd), ms[i]? = some e → ∃ b0 o0, ha = some ⟨b0, o0, none⟩ ∧ ∀ (j : Nat) (v : Value), (flH.c e)[j]? = some v → V.cell? ⟨b0, o0 + i * 7 + j, none⟩ = some v) := fun V hV i e he => by
    rcases (hB.inn hWb).inn hV with h | ⟨b, off, hb, hlt, hc⟩
    · rw [h] at he; simp at he
    · exact ⟨b, off, hb, fun j v hv => hc i e he j v hv⟩
  have HT0 : Hid (Tk W W.heap.size (.slice (some ⟨w.heap.size + 1, 0, none⟩) 0 0) (.slice (some ⟨w.heap.size + 1 + 1, 0, none⟩) 0 0) (gone o t false (ms.take 0)) (left o t false (ms.take 0)) W) := ⟨Below.refl _ _, Nat.le_refl _, .inl ⟨by simp [gone], _, rfl, .inr ⟨_, rfl⟩⟩, .inl ⟨by simp [left], _, rfl, .inr ⟨_, rfl⟩⟩, fun g h1 h2 => by simp [Value.ownBlock] at h1 h2; omega, fun g h1 => by simp [Value.ownBlock] at h1; omega, fun g h1 => by simp [Value.ownBlock] at h1; omega⟩
  clear hA hB
  go_enter Try.func27, Try.ntmps27
  go_wp2
  clear hW
  go_loopw [10, 11, 12] (fun v u y wr => ∃ k : Nat, k ≤ ms.length ∧ y = .int .i64 k ∧ Hid (Tk W W.heap.size v u (gone o t false (ms.take k)) (left o t false (ms.take k)) wr)) (fun _ _ y _ => ms.length - (intOf y).toNat)
  case atStart => exact ⟨0, Nat.zero_le _, rfl, HT0⟩
  case round =>
    obtain ⟨k, hk, rfl, hst⟩ := hrel
    clear HT0
    have hbel := hst.out.bel
    have hlo := hst.out.lo
    have bx : wr.cell? ⟨w.heap.size, 3, none⟩ = some (.slice ha ms.length bc) := HBX.out wr hbel
    by_cases hkl : k < ms.length
    · have i2 : (k : Int) < (ms.length : Int) := by omega
      have HG : Hid (ms[k]? = some ms[k]) := List.getElem?_eq_getElem hkl
      obtain ⟨⟨ht, ho, ⟨q, x, y, z, ag⟩⟩, he⟩ : ∃ e, ms[k] = e := ⟨_, rfl⟩
      rw [he] at HG
      obtain ⟨b0, o0, hqh, cs⟩ := HC.out wr hbel k _ HG.out
      have c0 : wr.cell? ⟨b0, o0 + k * 7, none⟩ = some (.int .i64 ht) := cs 0 _ rfl
      have c1 : wr.cell? ⟨b0, o0 + k * 7 + 1, none⟩ = some (.int .i64 ho) := cs 1 _ rfl
      have c2 : wr.cell? ⟨b0, o0 + k * 7 + 2, none⟩ = some (.int .i64 q) := cs 2 _ rfl
      have c3 : wr.cell? ⟨b0, o0 + k * 7 + 3, none⟩ = some (.string x) := cs 3 _ rfl
      have c4 : wr.cell? ⟨b0, o0 + k * 7 + 4, none⟩ = some (.string y) := cs 4 _ rfl
      have c5 : wr.cell? ⟨b0, o0 + k * 7 + 5, none⟩ = some (.string z) := cs 5 _ rfl
      have c6 : wr.cell? ⟨b0, o0 + k * 7 + 6, none⟩ = some (.bool ag) := cs 6 _ rfl
      have HS : Hid (Tk W W.heap.size u10 u11 (gone o t false (ms.take k)) (left o t false (ms.take k)) wr) := hst.out
      clear he cs hst
      by_cases p1 : ho = o
      · obtain rfl : o = ho := p1.symm
        by_cases p2 : ht = t
        · obtain rfl : t = ht := p2.symm
          have hh : hit o t false ⟨t, o, ⟨q, x, y, z, ag⟩⟩ = true := by simp [hit]
          obtain ⟨e1, e2⟩ := both_yes HG.out hh
          have hal : Below wr.heap.size wr (wr.alloc (.cells #[.int .i64 t, .int .i64 o, .int .i64 q, .string x, .string y, .string z, .bool ag] 55)) := (Below.refl _ _).alloc (Nat.le_refl _) _
          have hal2 : Below (wr.alloc (.cells #[.int .i64 t, .int .i64 o, .int .i64 q, .string x, .string y, .string z, .bool ag] 55)).heap.size (wr.alloc (.cells #[.int .i64 t, .int .i64 o, .int .i64 q, .string x, .string y, .string z, .bool ag] 55)) ((wr.alloc (.cells #[.int .i64 t, .int .i64 o, .int .i64 q, .string x, .string y, .string z, .bool ag] 55)).alloc (.cells #[.int .i64 t, .int .i64 o, .int .i64 q, .string x, .string y, .string z, .bool ag] 55)) := (Below.refl _ _).alloc (Nat.le_refl _) _
          have hlen : (gone o t false (ms.take k)).length ≤ 1048576 := by have := gone_le o t false (ms.take k); rw [List.length_take] at this; omega
          obtain ⟨v', w', hrun, htk⟩ := Tk.app ⟨t, o, ⟨q, x, y, z, ag⟩⟩ (((HS.out.on hal).on hal2)) hlen (bnew (wr.alloc (.cells #[.int .i64 t, .int .i64 o, .int .i64 q, .string x, .string y, .string z, .bool ag] 55)) _ _) 25
          have HRUN : Hid ((Builtin.append_ #[25, 25] 25 #[u10, .slice (some ⟨(wr.alloc (.cells #[.int .i64 t, .int .i64 o, .int .i64 q, .string x, .string y, .string z, .bool ag] 55)).heap.size, 0, none⟩) 1 1]).run Try.prog ((wr.alloc (.cells #[.int .i64 t, .int .i64 o, .int .i64 q, .string x, .string y, .string z, .bool ag] 55)).alloc (.cells #[.int .i64 t, .int .i64 o, .int .i64 q, .string x, .string y, .string z, .bool ag] 55)) = .ok v' w') := hrun
          simp only [World.size_alloc] at HRUN
          have HN : Hid (Tk W W.heap.size v' u11 (gone o t false (ms.take (k + 1))) (left o t false (ms.take (k + 1))) w') := by
            unfold Hid
            rw [e1, e2]
            exact htk
          clear hrun htk hal hal2 HS e1 e2 hh 
          go_wp2_with (at_builtin; refine cpr.wpList_append_run rfl _ _ 25 25 rfl _ _ _ rfl rfl HRUN.out ?_)
          try rw [← hqh]
          clear hqh
          go_wp2
          go_roundw
          case rel => first | exact ⟨k + 1, by omega, by go_num, HN⟩ | exact ⟨_, _, _, ⟨k + 1, by omega, by go_num, by rw [← hWs]; exact HN⟩, rfl, rfl, rfl⟩
          case measure => simp [intOf]; omega
        · have q2 : (ht == t) = false := by simpa using p2
          have p4 := p2
          have hh : hit o t false ⟨ht, o, ⟨q, x, y, z, ag⟩⟩ = false := by simp [hit, p4]
          obtain ⟨e1, e2⟩ := both_no HG.out hh
          have hal : Below wr.heap.size wr (wr.alloc (.cells #[.int .i64 ht, .int .i64 o, .int .i64 q, .string x, .string y, .string z, .bool ag] 55)) := (Below.refl _ _).alloc (Nat.le_refl _) _
          have hal2 : Below (wr.alloc (.cells #[.int .i64 ht, .int .i64 o, .int .i64 q, .string x, .string y, .string z, .bool ag] 55)).heap.size (wr.alloc (.cells #[.int .i64 ht, .int .i64 o, .int .i64 q, .string x, .string y, .string z, .bool ag] 55)) ((wr.alloc (.cells #[.int .i64 ht, .int .i64 o, .int .i64 q, .string x, .string y, .string z, .bool ag] 55)).alloc (.cells #[.int .i64 ht, .int .i64 o, .int .i64 q, .string x, .string y, .string z, .bool ag] 55)) := (Below.refl _ _).alloc (Nat.le_refl _) _
          have hlen : (left o t false (ms.take k)).length ≤ 1048576 := by have := left_le o t false (ms.take k); rw [List.length_take] at this; omega
          obtain ⟨v', w', hrun, htk⟩ := Tk.app ⟨ht, o, ⟨q, x, y, z, ag⟩⟩ (((HS.out.on hal).on hal2).swap) hlen (bnew (wr.alloc (.cells #[.int .i64 ht, .int .i64 o, .int .i64 q, .string x, .string y, .string z, .bool ag] 55)) _ _) 25
          have HRUN : Hid ((Builtin.append_ #[25, 25] 25 #[u11, .slice (some ⟨(wr.alloc (.cells #[.int .i64 ht, .int .i64 o, .int .i64 q, .string x, .string y, .string z, .bool ag] 55)).heap.size, 0, none⟩) 1 1]).run Try.prog ((wr.alloc (.cells #[.int .i64 ht, .int .i64 o, .int .i64 q, .string x, .string y, .string z, .bool ag] 55)).alloc (.cells #[.int .i64 ht, .int .i64 o, .int .i64 q, .string x, .string y, .string z, .bool ag] 55)) = .ok v' w') := hrun
          simp only [World.size_alloc] at HRUN
          have HN : Hid (Tk W W.heap.size u10 v' (gone o t false (ms.take (k + 1))) (left o t false (ms.take (k + 1))) w') := by
            unfold Hid
            rw [e1, e2]
            exact htk.swap
          clear hrun htk hal hal2 HS e1 e2 hh p4
          go_wp2_with (at_builtin; refine cpr.wpList_append_run rfl _ _ 25 25 rfl _ _ _ rfl rfl HRUN.out ?_)
          try rw [← hqh]
          clear hqh
          go_wp2
          go_roundw
          case rel => first | exact ⟨k + 1, by omega, by go_num, HN⟩ | exact ⟨_, _, _, ⟨k + 1, by omega, by go_num, by rw [← hWs]; exact HN⟩, rfl, rfl, rfl⟩
          case measure => simp [intOf]; omega
      · have q1 : (ho == o) = false := by simpa using p1
        have p3 := p1
        have hh : hit o t false ⟨ht, ho, ⟨q, x, y, z, ag⟩⟩ = false := by simp [hit, p3]
        obtain ⟨e1, e2⟩ := both_no HG.out hh
        have hal : Below wr.heap.size wr (wr.alloc (.cells #[.int .i64 ht, .int .i64 ho, .int .i64 q, .string x, .string y, .string z, .bool ag] 55)) := (Below.refl _ _).alloc (Nat.le_refl _) _
        have hal2 : Below (wr.alloc (.cells #[.int .i64 ht, .int .i64 ho, .int .i64 q, .string x, .string y, .string z, .bool ag] 55)).heap.size (wr.alloc (.cells #[.int .i64 ht, .int .i64 ho, .int .i64 q, .string x, .string y, .string z, .bool ag] 55)) ((wr.alloc (.cells #[.int .i64 ht, .int .i64 ho, .int .i64 q, .string x, .string y, .string z, .bool ag] 55)).alloc (.cells #[.int .i64 ht, .int .i64 ho, .int .i64 q, .string x, .string y, .string z, .bool ag] 55)) := (Below.refl _ _).alloc (Nat.le_refl _) _
        have hlen : (left o t false (ms.take k)).length ≤ 1048576 := by have := left_le o t false (ms.take k); rw [List.length_take] at this; omega
        obtain ⟨v', w', hrun, htk⟩ := Tk.app ⟨ht, ho, ⟨q, x, y, z, ag⟩⟩ (((HS.out.on hal).on hal2).swap) hlen (bnew (wr.alloc (.cells #[.int .i64 ht, .int .i64 ho, .int .i64 q, .string x, .string y, .string z, .bool ag] 55)) _ _) 25
        have HRUN : Hid ((Builtin.append_ #[25, 25] 25 #[u11, .slice (some ⟨(wr.alloc (.cells #[.int .i64 ht, .int .i64 ho, .int .i64 q, .string x, .string y, .string z, .bool ag] 55)).heap.size, 0, none⟩) 1 1]).run Try.prog ((wr.alloc (.cells #[.int .i64 ht, .int .i64 ho, .int .i64 q, .string x, .string y, .string z, .bool ag] 55)).alloc (.cells #[.int .i64 ht, .int .i64 ho, .int .i64 q, .string x, .string y, .string z, .bool ag] 55)) = .ok v' w') := hrun
        simp only [World.size_alloc] at HRUN
        have HN : Hid (Tk W W.heap.size u10 v' (gone o t false (ms.take (k + 1))) (left o t false (ms.take (k + 1))) w') := by
          unfold Hid
          rw [e1, e2]
          exact htk.swap
        clear hrun htk hal hal2 HS e1 e2 hh p3
        go_wp2_with (at_builtin; refine cpr.wpList_append_run rfl _ _ 25 25 rfl _ _ _ rfl rfl HRUN.out ?_)
        try rw [← hqh]
        clear hqh
        go_wp2
        go_roundw
        case rel => first | exact ⟨k + 1, by omega, by go_num, HN⟩ | exact ⟨_, _, _, ⟨k + 1, by omega, by go_num, by rw [← hWs]; exact HN⟩, rfl, rfl, rfl⟩
        case measure => simp [intOf]; omega
    · obtain rfl : k = ms.length := by omega
      rw [List.take_length] at hst
      have HF : Hid (Tk w w.heap.size u10 u11 (gone o t false ms) (left o t false ms) wr) := tk_low hst.out hWb
      clear hst
      go_wp2
      go_ret2
      exact ⟨_, _, rfl, HF.out⟩
end Go.Proofs.Ytnlcmheahihlpaa.qts
