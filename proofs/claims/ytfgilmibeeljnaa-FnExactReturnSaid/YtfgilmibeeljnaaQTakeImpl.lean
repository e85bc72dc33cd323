/- The program's take: the held ones that are meant, and the rest. -/
import Derived.Test.YtfgilmibeeljnaaQTakeSpec
namespace Go.Proofs.Ytfgilmibeeljnaa.qti
open Go.ChangeShapes Go.WideShapes Go.ChangeAt Go.RowKit Go.Proofs.Ytfgilmibeeljnaa.fl Go.Proofs.Ytfgilmibeeljnaa.qdp Go.Proofs.Ytfgilmibeeljnaa.qts
set_option linter.unusedVariables false

set_option maxRecDepth 100000 in
set_option maxHeartbeats 2000000 in
theorem impl_take_true (hb : Nat) (v0 : Value) (nm : ByteArray) (nx : Int) (ms : List flH.Hd) (b0 bc : Nat) (o t : Int) (w : World) (hml : ms.length ≤ 1048576) (hX : w.heap[hb]? = some (.cells #[v0, .string nm, .int .i64 nx, .slice (some ⟨b0, 0, none⟩) ms.length bc] 58 (0, 0))) (hB : Row flH.c 7 w w.heap.size (some ⟨b0, 0, none⟩) ms) :
    Calls Try.prog 46 #[.pointer (some ⟨hb, 0, none⟩), .int .i64 o, .int .i64 t, .bool true] w fun e w' => ∃ v u wr, e = .returned v ∧ Tk w w.heap.size v u (gone o t true ms) (left o t true ms) wr ∧ w' = wr.setCell ⟨hb, 3, none⟩ u := by
  have hbl : hb < w.heap.size := (Array.getElem?_eq_some_iff.1 hX).1
  have bx : w.cell? ⟨hb, 3, none⟩ = some (.slice (some ⟨b0, 0, none⟩) ms.length bc) := bcell hX rfl
  have HBF : Hid (∀ V, Below w.heap.size w V → V.cell? ⟨hb, 3, none⟩ = some (.slice (some ⟨b0, 0, none⟩) ms.length bc) ∧ V.frozen? ⟨hb, 3, none⟩ = false) := fun V hV => ⟨bcell (bstay hX hV hbl) rfl, bfree (bstay hX hV hbl) 3⟩
  have HC : Hid (∀ V, Below w.heap.size w V → ∀ (i : Nat) (e : flH.Hd), ms[i]? = some e → ∀ (j : Nat) (v : Value), (flH.c e)[j]? = some v → V.cell? ⟨b0, i * 7 + j, none⟩ = some v) := fun V hV i e he j v hv => by
    rcases hB.inn hV with h | ⟨b, off, hb, hlt, hc⟩
    · rw [h] at he; simp at he
    · cases hb
      have := hc i e he j v hv
      rwa [Nat.zero_add] at this
  have HT0 : Hid (Tk w w.heap.size (.slice none 0 0) (.slice none 0 0) (gone o t true (ms.take 0)) (left o t true (ms.take 0)) w) := ⟨Below.refl _ _, Nat.le_refl _, .inl ⟨by simp [gone], _, rfl⟩, .inl ⟨by simp [left], _, rfl⟩, fun g h1 h2 => by simp [Value.ownBlock] at h1, fun g h1 => by simp [Value.ownBlock] at h1, fun g h1 => by simp [Value.ownBlock] at h1⟩
  clear hX hB
  go_enter Try.func46, Try.ntmps46
  go_wp2
  clear bx
  go_loopw [9, 10, 18] (fun v u y wr => ∃ k : Nat, k ≤ ms.length ∧ y = .int .i64 k ∧ Hid (Tk w w.heap.size v u (gone o t true (ms.take k)) (left o t true (ms.take k)) wr)) (fun _ _ y _ => ms.length - (intOf y).toNat)
  case atStart => exact ⟨0, Nat.zero_le _, rfl, HT0⟩
  case round =>
    obtain ⟨k, hk, rfl, hst⟩ := hrel
    clear HT0
    have hbel := hst.out.bel
    have hlo := hst.out.lo
    by_cases hkl : k < ms.length
    · have i2 : (k : Int) < (ms.length : Int) := by omega
      have HG : Hid (ms[k]? = some ms[k]) := List.getElem?_eq_getElem hkl
      obtain ⟨⟨ht, ho, ⟨q, x, y, z, ag⟩⟩, he⟩ : ∃ e, ms[k] = e := ⟨_, rfl⟩
      rw [he] at HG
      have cs := HC.out wr hbel k _ HG.out
      have c0 : wr.cell? ⟨b0, k * 7, none⟩ = some (.int .i64 ht) := cs 0 _ rfl
      have c1 : wr.cell? ⟨b0, k * 7 + 1, none⟩ = some (.int .i64 ho) := cs 1 _ rfl
      have c2 : wr.cell? ⟨b0, k * 7 + 2, none⟩ = some (.int .i64 q) := cs 2 _ rfl
      have c3 : wr.cell? ⟨b0, k * 7 + 3, none⟩ = some (.string x) := cs 3 _ rfl
      have c4 : wr.cell? ⟨b0, k * 7 + 4, none⟩ = some (.string y) := cs 4 _ rfl
      have c5 : wr.cell? ⟨b0, k * 7 + 5, none⟩ = some (.string z) := cs 5 _ rfl
      have c6 : wr.cell? ⟨b0, k * 7 + 6, none⟩ = some (.bool ag) := cs 6 _ rfl
      have HS : Hid (Tk w w.heap.size u9 u10 (gone o t true (ms.take k)) (left o t true (ms.take k)) wr) := hst.out
      clear he cs hst
      by_cases p1 : ho = o
      · obtain rfl : o = ho := p1.symm
        by_cases p2 : ht = t
        · obtain rfl : t = ht := p2.symm
          have hh : hit o t true ⟨t, o, ⟨q, x, y, z, ag⟩⟩ = true := by simp [hit]
          obtain ⟨e1, e2⟩ := both_yes HG.out hh
          have hal : Below wr.heap.size wr (wr.alloc (.cells #[.int .i64 t, .int .i64 o, .int .i64 q, .string x, .string y, .string z, .bool ag] 66)) := (Below.refl _ _).alloc (Nat.le_refl _) _
          have hal2 : Below (wr.alloc (.cells #[.int .i64 t, .int .i64 o, .int .i64 q, .string x, .string y, .string z, .bool ag] 66)).heap.size (wr.alloc (.cells #[.int .i64 t, .int .i64 o, .int .i64 q, .string x, .string y, .string z, .bool ag] 66)) ((wr.alloc (.cells #[.int .i64 t, .int .i64 o, .int .i64 q, .string x, .string y, .string z, .bool ag] 66)).alloc (.cells #[.int .i64 t, .int .i64 o, .int .i64 q, .string x, .string y, .string z, .bool ag] 66)) := (Below.refl _ _).alloc (Nat.le_refl _) _
          have hlen : (gone o t true (ms.take k)).length ≤ 1048576 := by have := gone_le o t true (ms.take k); rw [List.length_take] at this; omega
          obtain ⟨v', w', hrun, htk⟩ := Tk.app ⟨t, o, ⟨q, x, y, z, ag⟩⟩ (((HS.out.on hal).on hal2)) hlen (bnew (wr.alloc (.cells #[.int .i64 t, .int .i64 o, .int .i64 q, .string x, .string y, .string z, .bool ag] 66)) _ _) 28
          have HRUN : Hid ((Builtin.append_ #[28, 28] 28 #[u9, .slice (some ⟨(wr.alloc (.cells #[.int .i64 t, .int .i64 o, .int .i64 q, .string x, .string y, .string z, .bool ag] 66)).heap.size, 0, none⟩) 1 1]).run Try.prog ((wr.alloc (.cells #[.int .i64 t, .int .i64 o, .int .i64 q, .string x, .string y, .string z, .bool ag] 66)).alloc (.cells #[.int .i64 t, .int .i64 o, .int .i64 q, .string x, .string y, .string z, .bool ag] 66)) = .ok v' w') := hrun
          simp only [World.size_alloc] at HRUN
          have HN : Hid (Tk w w.heap.size v' u10 (gone o t true (ms.take (k + 1))) (left o t true (ms.take (k + 1))) w') := by
            unfold Hid
            rw [e1, e2]
            exact htk
          clear hrun htk hal hal2 HS e1 e2 hh 
          go_wp2_with (at_builtin; refine cpr.wpList_append_run rfl _ _ 28 28 rfl _ _ _ rfl rfl HRUN.out ?_)
          go_wp2
          go_roundw
          case rel => exact ⟨k + 1, by omega, by go_num, HN⟩
          case measure => simp [intOf]; omega
        · have q2 : (ht == t) = false := by simpa using p2
          by_cases p5 : ht < t
          · have q3 : decide (ht < t) = true := by simpa using p5
            have p4 := p2
            have p6 := p5
            have hh : hit o t true ⟨ht, o, ⟨q, x, y, z, ag⟩⟩ = true := by simp [hit, p4, p6]
            obtain ⟨e1, e2⟩ := both_yes HG.out hh
            have hal : Below wr.heap.size wr (wr.alloc (.cells #[.int .i64 ht, .int .i64 o, .int .i64 q, .string x, .string y, .string z, .bool ag] 66)) := (Below.refl _ _).alloc (Nat.le_refl _) _
            have hal2 : Below (wr.alloc (.cells #[.int .i64 ht, .int .i64 o, .int .i64 q, .string x, .string y, .string z, .bool ag] 66)).heap.size (wr.alloc (.cells #[.int .i64 ht, .int .i64 o, .int .i64 q, .string x, .string y, .string z, .bool ag] 66)) ((wr.alloc (.cells #[.int .i64 ht, .int .i64 o, .int .i64 q, .string x, .string y, .string z, .bool ag] 66)).alloc (.cells #[.int .i64 ht, .int .i64 o, .int .i64 q, .string x, .string y, .string z, .bool ag] 66)) := (Below.refl _ _).alloc (Nat.le_refl _) _
            have hlen : (gone o t true (ms.take k)).length ≤ 1048576 := by have := gone_le o t true (ms.take k); rw [List.length_take] at this; omega
            obtain ⟨v', w', hrun, htk⟩ := Tk.app ⟨ht, o, ⟨q, x, y, z, ag⟩⟩ (((HS.out.on hal).on hal2)) hlen (bnew (wr.alloc (.cells #[.int .i64 ht, .int .i64 o, .int .i64 q, .string x, .string y, .string z, .bool ag] 66)) _ _) 28
            have HRUN : Hid ((Builtin.append_ #[28, 28] 28 #[u9, .slice (some ⟨(wr.alloc (.cells #[.int .i64 ht, .int .i64 o, .int .i64 q, .string x, .string y, .string z, .bool ag] 66)).heap.size, 0, none⟩) 1 1]).run Try.prog ((wr.alloc (.cells #[.int .i64 ht, .int .i64 o, .int .i64 q, .string x, .string y, .string z, .bool ag] 66)).alloc (.cells #[.int .i64 ht, .int .i64 o, .int .i64 q, .string x, .string y, .string z, .bool ag] 66)) = .ok v' w') := hrun
            simp only [World.size_alloc] at HRUN
            have HN : Hid (Tk w w.heap.size v' u10 (gone o t true (ms.take (k + 1))) (left o t true (ms.take (k + 1))) w') := by
              unfold Hid
              rw [e1, e2]
              exact htk
            clear hrun htk hal hal2 HS e1 e2 hh p4 p6
            go_wp2_with (at_builtin; refine cpr.wpList_append_run rfl _ _ 28 28 rfl _ _ _ rfl rfl HRUN.out ?_)
            go_wp2
            go_roundw
            case rel => exact ⟨k + 1, by omega, by go_num, HN⟩
            case measure => simp [intOf]; omega
          · have q3 : decide (ht < t) = false := by simpa using p5
            have p4 := p2
            have p6 := p5
            have hh : hit o t true ⟨ht, o, ⟨q, x, y, z, ag⟩⟩ = false := by simp [hit, p4, p6]
            obtain ⟨e1, e2⟩ := both_no HG.out hh
            have hal : Below wr.heap.size wr (wr.alloc (.cells #[.int .i64 ht, .int .i64 o, .int .i64 q, .string x, .string y, .string z, .bool ag] 66)) := (Below.refl _ _).alloc (Nat.le_refl _) _
            have hal2 : Below (wr.alloc (.cells #[.int .i64 ht, .int .i64 o, .int .i64 q, .string x, .string y, .string z, .bool ag] 66)).heap.size (wr.alloc (.cells #[.int .i64 ht, .int .i64 o, .int .i64 q, .string x, .string y, .string z, .bool ag] 66)) ((wr.alloc (.cells #[.int .i64 ht, .int .i64 o, .int .i64 q, .string x, .string y, .string z, .bool ag] 66)).alloc (.cells #[.int .i64 ht, .int .i64 o, .int .i64 q, .string x, .string y, .string z, .bool ag] 66)) := (Below.refl _ _).alloc (Nat.le_refl _) _
            have hlen : (left o t true (ms.take k)).length ≤ 1048576 := by have := left_le o t true (ms.take k); rw [List.length_take] at this; omega
            obtain ⟨v', w', hrun, htk⟩ := Tk.app ⟨ht, o, ⟨q, x, y, z, ag⟩⟩ (((HS.out.on hal).on hal2).swap) hlen (bnew (wr.alloc (.cells #[.int .i64 ht, .int .i64 o, .int .i64 q, .string x, .string y, .string z, .bool ag] 66)) _ _) 28
            have HRUN : Hid ((Builtin.append_ #[28, 28] 28 #[u10, .slice (some ⟨(wr.alloc (.cells #[.int .i64 ht, .int .i64 o, .int .i64 q, .string x, .string y, .string z, .bool ag] 66)).heap.size, 0, none⟩) 1 1]).run Try.prog ((wr.alloc (.cells #[.int .i64 ht, .int .i64 o, .int .i64 q, .string x, .string y, .string z, .bool ag] 66)).alloc (.cells #[.int .i64 ht, .int .i64 o, .int .i64 q, .string x, .string y, .string z, .bool ag] 66)) = .ok v' w') := hrun
            simp only [World.size_alloc] at HRUN
            have HN : Hid (Tk w w.heap.size u9 v' (gone o t true (ms.take (k + 1))) (left o t true (ms.take (k + 1))) w') := by
              unfold Hid
              rw [e1, e2]
              exact htk.swap
            clear hrun htk hal hal2 HS e1 e2 hh p4 p6
            go_wp2_with (at_builtin; refine cpr.wpList_append_run rfl _ _ 28 28 rfl _ _ _ rfl rfl HRUN.out ?_)
            go_wp2
            go_roundw
            case rel => exact ⟨k + 1, by omega, by go_num, HN⟩
            case measure => simp [intOf]; omega
      · have q1 : (ho == o) = false := by simpa using p1
        have p3 := p1
        have hh : hit o t true ⟨ht, ho, ⟨q, x, y, z, ag⟩⟩ = false := by simp [hit, p3]
        obtain ⟨e1, e2⟩ := both_no HG.out hh
        have hal : Below wr.heap.size wr (wr.alloc (.cells #[.int .i64 ht, .int .i64 ho, .int .i64 q, .string x, .string y, .string z, .bool ag] 66)) := (Below.refl _ _).alloc (Nat.le_refl _) _
        have hal2 : Below (wr.alloc (.cells #[.int .i64 ht, .int .i64 ho, .int .i64 q, .string x, .string y, .string z, .bool ag] 66)).heap.size (wr.alloc (.cells #[.int .i64 ht, .int .i64 ho, .int .i64 q, .string x, .string y, .string z, .bool ag] 66)) ((wr.alloc (.cells #[.int .i64 ht, .int .i64 ho, .int .i64 q, .string x, .string y, .string z, .bool ag] 66)).alloc (.cells #[.int .i64 ht, .int .i64 ho, .int .i64 q, .string x, .string y, .string z, .bool ag] 66)) := (Below.refl _ _).alloc (Nat.le_refl _) _
        have hlen : (left o t true (ms.take k)).length ≤ 1048576 := by have := left_le o t true (ms.take k); rw [List.length_take] at this; omega
        obtain ⟨v', w', hrun, htk⟩ := Tk.app ⟨ht, ho, ⟨q, x, y, z, ag⟩⟩ (((HS.out.on hal).on hal2).swap) hlen (bnew (wr.alloc (.cells #[.int .i64 ht, .int .i64 ho, .int .i64 q, .string x, .string y, .string z, .bool ag] 66)) _ _) 28
        have HRUN : Hid ((Builtin.append_ #[28, 28] 28 #[u10, .slice (some ⟨(wr.alloc (.cells #[.int .i64 ht, .int .i64 ho, .int .i64 q, .string x, .string y, .string z, .bool ag] 66)).heap.size, 0, none⟩) 1 1]).run Try.prog ((wr.alloc (.cells #[.int .i64 ht, .int .i64 ho, .int .i64 q, .string x, .string y, .string z, .bool ag] 66)).alloc (.cells #[.int .i64 ht, .int .i64 ho, .int .i64 q, .string x, .string y, .string z, .bool ag] 66)) = .ok v' w') := hrun
        simp only [World.size_alloc] at HRUN
        have HN : Hid (Tk w w.heap.size u9 v' (gone o t true (ms.take (k + 1))) (left o t true (ms.take (k + 1))) w') := by
          unfold Hid
          rw [e1, e2]
          exact htk.swap
        clear hrun htk hal hal2 HS e1 e2 hh p3
        go_wp2_with (at_builtin; refine cpr.wpList_append_run rfl _ _ 28 28 rfl _ _ _ rfl rfl HRUN.out ?_)
        go_wp2
        go_roundw
        case rel => exact ⟨k + 1, by omega, by go_num, HN⟩
        case measure => simp [intOf]; omega
    · obtain rfl : k = ms.length := by omega
      rw [List.take_length] at hst
      have HF : Hid (Tk w w.heap.size u9 u10 (gone o t true ms) (left o t true ms) wr) := hst.out
      obtain ⟨bx, bf⟩ := HBF.out wr hbel
      obtain ⟨ub, uc, rfl⟩ := hst.out.au.form
      obtain ⟨vb, vc, rfl⟩ := hst.out.av.form
      clear hst
      go_wp2
      go_ret
      exact ⟨_, _, _, rfl, HF.out, rfl⟩

set_option maxRecDepth 100000 in
set_option maxHeartbeats 2000000 in
theorem impl_take_false (hb : Nat) (v0 : Value) (nm : ByteArray) (nx : Int) (ms : List flH.Hd) (b0 bc : Nat) (o t : Int) (w : World) (hml : ms.length ≤ 1048576) (hX : w.heap[hb]? = some (.cells #[v0, .string nm, .int .i64 nx, .slice (some ⟨b0, 0, none⟩) ms.length bc] 58 (0, 0))) (hB : Row flH.c 7 w w.heap.size (some ⟨b0, 0, none⟩) ms) :
    Calls Try.prog 46 #[.pointer (some ⟨hb, 0, none⟩), .int .i64 o, .int .i64 t, .bool false] w fun e w' => ∃ v u wr, e = .returned v ∧ Tk w w.heap.size v u (gone o t false ms) (left o t false ms) wr ∧ w' = wr.setCell ⟨hb, 3, none⟩ u := by
  have hbl : hb < w.heap.size := (Array.getElem?_eq_some_iff.1 hX).1
  have bx : w.cell? ⟨hb, 3, none⟩ = some (.slice (some ⟨b0, 0, none⟩) ms.length bc) := bcell hX rfl
  have HBF : Hid (∀ V, Below w.heap.size w V → V.cell? ⟨hb, 3, none⟩ = some (.slice (some ⟨b0, 0, none⟩) ms.length bc) ∧ V.frozen? ⟨hb, 3, none⟩ = false) := fun V hV => ⟨bcell (bstay hX hV hbl) rfl, bfree (bstay hX hV hbl) 3⟩
  have HC : Hid (∀ V, Below w.heap.size w V → ∀ (i : Nat) (e : flH.Hd), ms[i]? = some e → ∀ (j : Nat) (v : Value), (flH.c e)[j]? = some v → V.cell? ⟨b0, i * 7 + j, none⟩ = some v) := fun V hV i e he j v hv => by
    rcases hB.inn hV with h | ⟨b, off, hb, hlt, hc⟩
    · rw [h] at he; simp at he
    · cases hb
      have := hc i e he j v hv
      rwa [Nat.zero_add] at this
  have HT0 : Hid (Tk w w.heap.size (.slice none 0 0) (.slice none 0 0) (gone o t false (ms.take 0)) (left o t false (ms.take 0)) w) := ⟨Below.refl _ _, Nat.le_refl _, .inl ⟨by simp [gone], _, rfl⟩, .inl ⟨by simp [left], _, rfl⟩, fun g h1 h2 => by simp [Value.ownBlock] at h1, fun g h1 => by simp [Value.ownBlock] at h1, fun g h1 => by simp [Value.ownBlock] at h1⟩
  clear hX hB
  go_enter Try.func46, Try.ntmps46
  go_wp2
  clear bx
  go_loopw [9, 10, 18] (fun v u y wr => ∃ k : Nat, k ≤ ms.length ∧ y = .int .i64 k ∧ Hid (Tk w w.heap.size v u (gone o t false (ms.take k)) (left o t false (ms.take k)) wr)) (fun _ _ y _ => ms.length - (intOf y).toNat)
  case atStart => exact ⟨0, Nat.zero_le _, rfl, HT0⟩
  case round =>
    obtain ⟨k, hk, rfl, hst⟩ := hrel
    clear HT0
    have hbel := hst.out.bel
    have hlo := hst.out.lo
    by_cases hkl : k < ms.length
    · have i2 : (k : Int) < (ms.length : Int) := by omega
      have HG : Hid (ms[k]? = some ms[k]) := List.getElem?_eq_getElem hkl
      obtain ⟨⟨ht, ho, ⟨q, x, y, z, ag⟩⟩, he⟩ : ∃ e, ms[k] = e := ⟨_, rfl⟩
      rw [he] at HG
      have cs := HC.out wr hbel k _ HG.out
      have c0 : wr.cell? ⟨b0, k * 7, none⟩ = some (.int .i64 ht) := cs 0 _ rfl
      have c1 : wr.cell? ⟨b0, k * 7 + 1, none⟩ = some (.int .i64 ho) := cs 1 _ rfl
      have c2 : wr.cell? ⟨b0, k * 7 + 2, none⟩ = some (.int .i64 q) := cs 2 _ rfl
      have c3 : wr.cell? ⟨b0, k * 7 + 3, none⟩ = some (.string x) := cs 3 _ rfl
      have c4 : wr.cell? ⟨b0, k * 7 + 4, none⟩ = some (.string y) := cs 4 _ rfl
      have c5 : wr.cell? ⟨b0, k * 7 + 5, none⟩ = some (.string z) := cs 5 _ rfl
      have c6 : wr.cell? ⟨b0, k * 7 + 6, none⟩ = some (.bool ag) := cs 6 _ rfl
      have HS : Hid (Tk w w.heap.size u9 u10 (gone o t false (ms.take k)) (left o t false (ms.take k)) wr) := hst.out
      clear he cs hst
      by_cases p1 : ho = o
      · obtain rfl : o = ho := p1.symm
        by_cases p2 : ht = t
        · obtain rfl : t = ht := p2.symm
          have hh : hit o t false ⟨t, o, ⟨q, x, y, z, ag⟩⟩ = true := by simp [hit]
          obtain ⟨e1, e2⟩ := both_yes HG.out hh
          have hal : Below wr.heap.size wr (wr.alloc (.cells #[.int .i64 t, .int .i64 o, .int .i64 q, .string x, .string y, .string z, .bool ag] 66)) := (Below.refl _ _).alloc (Nat.le_refl _) _
          have hal2 : Below (wr.alloc (.cells #[.int .i64 t, .int .i64 o, .int .i64 q, .string x, .string y, .string z, .bool ag] 66)).heap.size (wr.alloc (.cells #[.int .i64 t, .int .i64 o, .int .i64 q, .string x, .string y, .string z, .bool ag] 66)) ((wr.alloc (.cells #[.int .i64 t, .int .i64 o, .int .i64 q, .string x, .string y, .string z, .bool ag] 66)).alloc (.cells #[.int .i64 t, .int .i64 o, .int .i64 q, .string x, .string y, .string z, .bool ag] 66)) := (Below.refl _ _).alloc (Nat.le_refl _) _
          have hlen : (gone o t false (ms.take k)).length ≤ 1048576 := by have := gone_le o t false (ms.take k); rw [List.length_take] at this; omega
          obtain ⟨v', w', hrun, htk⟩ := Tk.app ⟨t, o, ⟨q, x, y, z, ag⟩⟩ (((HS.out.on hal).on hal2)) hlen (bnew (wr.alloc (.cells #[.int .i64 t, .int .i64 o, .int .i64 q, .string x, .string y, .string z, .bool ag] 66)) _ _) 28
          have HRUN : Hid ((Builtin.append_ #[28, 28] 28 #[u9, .slice (some ⟨(wr.alloc (.cells #[.int .i64 t, .int .i64 o, .int .i64 q, .string x, .string y, .string z, .bool ag] 66)).heap.size, 0, none⟩) 1 1]).run Try.prog ((wr.alloc (.cells #[.int .i64 t, .int .i64 o, .int .i64 q, .string x, .string y, .string z, .bool ag] 66)).alloc (.cells #[.int .i64 t, .int .i64 o, .int .i64 q, .string x, .string y, .string z, .bool ag] 66)) = .ok v' w') := hrun
          simp only [World.size_alloc] at HRUN
          have HN : Hid (Tk w w.heap.size v' u10 (gone o t false (ms.take (k + 1))) (left o t false (ms.take (k + 1))) w') := by
            unfold Hid
            rw [e1, e2]
            exact htk
          clear hrun htk hal hal2 HS e1 e2 hh 
          go_wp2_with (at_builtin; refine cpr.wpList_append_run rfl _ _ 28 28 rfl _ _ _ rfl rfl HRUN.out ?_)
          go_wp2
          go_roundw
          case rel => exact ⟨k + 1, by omega, by go_num, HN⟩
          case measure => simp [intOf]; omega
        · have q2 : (ht == t) = false := by simpa using p2
          have p4 := p2
          have hh : hit o t false ⟨ht, o, ⟨q, x, y, z, ag⟩⟩ = false := by simp [hit, p4]
          obtain ⟨e1, e2⟩ := both_no HG.out hh
          have hal : Below wr.heap.size wr (wr.alloc (.cells #[.int .i64 ht, .int .i64 o, .int .i64 q, .string x, .string y, .string z, .bool ag] 66)) := (Below.refl _ _).alloc (Nat.le_refl _) _
          have hal2 : Below (wr.alloc (.cells #[.int .i64 ht, .int .i64 o, .int .i64 q, .string x, .string y, .string z, .bool ag] 66)).heap.size (wr.alloc (.cells #[.int .i64 ht, .int .i64 o, .int .i64 q, .string x, .string y, .string z, .bool ag] 66)) ((wr.alloc (.cells #[.int .i64 ht, .int .i64 o, .int .i64 q, .string x, .string y, .string z, .bool ag] 66)).alloc (.cells #[.int .i64 ht, .int .i64 o, .int .i64 q, .string x, .string y, .string z, .bool ag] 66)) := (Below.refl _ _).alloc (Nat.le_refl _) _
          have hlen : (left o t false (ms.take k)).length ≤ 1048576 := by have := left_le o t false (ms.take k); rw [List.length_take] at this; omega
          obtain ⟨v', w', hrun, htk⟩ := Tk.app ⟨ht, o, ⟨q, x, y, z, ag⟩⟩ (((HS.out.on hal).on hal2).swap) hlen (bnew (wr.alloc (.cells #[.int .i64 ht, .int .i64 o, .int .i64 q, .string x, .string y, .string z, .bool ag] 66)) _ _) 28
          have HRUN : Hid ((Builtin.append_ #[28, 28] 28 #[u10, .slice (some ⟨(wr.alloc (.cells #[.int .i64 ht, .int .i64 o, .int .i64 q, .string x, .string y, .string z, .bool ag] 66)).heap.size, 0, none⟩) 1 1]).run Try.prog ((wr.alloc (.cells #[.int .i64 ht, .int .i64 o, .int .i64 q, .string x, .string y, .string z, .bool ag] 66)).alloc (.cells #[.int .i64 ht, .int .i64 o, .int .i64 q, .string x, .string y, .string z, .bool ag] 66)) = .ok v' w') := hrun
          simp only [World.size_alloc] at HRUN
          have HN : Hid (Tk w w.heap.size u9 v' (gone o t false (ms.take (k + 1))) (left o t false (ms.take (k + 1))) w') := by
            unfold Hid
            rw [e1, e2]
            exact htk.swap
          clear hrun htk hal hal2 HS e1 e2 hh p4
          go_wp2_with (at_builtin; refine cpr.wpList_append_run rfl _ _ 28 28 rfl _ _ _ rfl rfl HRUN.out ?_)
          go_wp2
          go_roundw
          case rel => exact ⟨k + 1, by omega, by go_num, HN⟩
          case measure => simp [intOf]; omega
      · have q1 : (ho == o) = false := by simpa using p1
        have p3 := p1
        have hh : hit o t false ⟨ht, ho, ⟨q, x, y, z, ag⟩⟩ = false := by simp [hit, p3]
        obtain ⟨e1, e2⟩ := both_no HG.out hh
        have hal : Below wr.heap.size wr (wr.alloc (.cells #[.int .i64 ht, .int .i64 ho, .int .i64 q, .string x, .string y, .string z, .bool ag] 66)) := (Below.refl _ _).alloc (Nat.le_refl _) _
        have hal2 : Below (wr.alloc (.cells #[.int .i64 ht, .int .i64 ho, .int .i64 q, .string x, .string y, .string z, .bool ag] 66)).heap.size (wr.alloc (.cells #[.int .i64 ht, .int .i64 ho, .int .i64 q, .string x, .string y, .string z, .bool ag] 66)) ((wr.alloc (.cells #[.int .i64 ht, .int .i64 ho, .int .i64 q, .string x, .string y, .string z, .bool ag] 66)).alloc (.cells #[.int .i64 ht, .int .i64 ho, .int .i64 q, .string x, .string y, .string z, .bool ag] 66)) := (Below.refl _ _).alloc (Nat.le_refl _) _
        have hlen : (left o t false (ms.take k)).length ≤ 1048576 := by have := left_le o t false (ms.take k); rw [List.length_take] at this; omega
        obtain ⟨v', w', hrun, htk⟩ := Tk.app ⟨ht, ho, ⟨q, x, y, z, ag⟩⟩ (((HS.out.on hal).on hal2).swap) hlen (bnew (wr.alloc (.cells #[.int .i64 ht, .int .i64 ho, .int .i64 q, .string x, .string y, .string z, .bool ag] 66)) _ _) 28
        have HRUN : Hid ((Builtin.append_ #[28, 28] 28 #[u10, .slice (some ⟨(wr.alloc (.cells #[.int .i64 ht, .int .i64 ho, .int .i64 q, .string x, .string y, .string z, .bool ag] 66)).heap.size, 0, none⟩) 1 1]).run Try.prog ((wr.alloc (.cells #[.int .i64 ht, .int .i64 ho, .int .i64 q, .string x, .string y, .string z, .bool ag] 66)).alloc (.cells #[.int .i64 ht, .int .i64 ho, .int .i64 q, .string x, .string y, .string z, .bool ag] 66)) = .ok v' w') := hrun
        simp only [World.size_alloc] at HRUN
        have HN : Hid (Tk w w.heap.size u9 v' (gone o t false (ms.take (k + 1))) (left o t false (ms.take (k + 1))) w') := by
          unfold Hid
          rw [e1, e2]
          exact htk.swap
        clear hrun htk hal hal2 HS e1 e2 hh p3
        go_wp2_with (at_builtin; refine cpr.wpList_append_run rfl _ _ 28 28 rfl _ _ _ rfl rfl HRUN.out ?_)
        go_wp2
        go_roundw
        case rel => exact ⟨k + 1, by omega, by go_num, HN⟩
        case measure => simp [intOf]; omega
    · obtain rfl : k = ms.length := by omega
      rw [List.take_length] at hst
      have HF : Hid (Tk w w.heap.size u9 u10 (gone o t false ms) (left o t false ms) wr) := hst.out
      obtain ⟨bx, bf⟩ := HBF.out wr hbel
      obtain ⟨ub, uc, rfl⟩ := hst.out.au.form
      obtain ⟨vb, vc, rfl⟩ := hst.out.av.form
      clear hst
      go_wp2
      go_ret
      exact ⟨_, _, _, rfl, HF.out, rfl⟩
end Go.Proofs.Ytfgilmibeeljnaa.qti
