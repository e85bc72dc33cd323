/- FnFrames: the walk of the law: it returns true at every code, and turns nothing that was there. -/
import Derived.Test.YtkddnennodonhaaFramesPlain
import Derived.Test.YtkddnennodonhaaFramesImpl
import Derived.Test.YtkddnennodonhaaFrameMarks
import Derived.Test.YtkddnennodonhaaDrawFrame
import Derived.Test.YtkddnennodonhaaQuietIn
import Derived.Deep.RegionWith
namespace Go.Proofs.Ytkddnennodonhaa.fw
open Go.ChangeShapes Go.WideShapes Go.ChangeAt Go.RowKit Go.Proofs.Ytkddnennodonhaa.fs
set_option linter.unusedVariables false

theorem big_no (a : Option Addr) (len cap : Nat) (w : World) (h : len ≤ 1048576) : Calls Try.prog 17 #[.slice a len cap] w fun e w' => e = .returned (.bool false) ∧ w = w' := by
  have hd : decide ((1048576 : Int) < (len : Int)) = false := by simp; omega
  go_enter Try.func17, Try.ntmps17
  go_wp2
  go_ret
  exact ⟨by simp, rfl⟩
theorem Code.top {w w' : World} {a : Option Addr} {len : Nat} (h : dw.Code w w.heap.size a len) (hb : qi.T w w') : dw.Code w' w'.heap.size a len := (h.below hb (Nat.le_refl _)).mono hb.size
theorem law_at {w : World} {a : Option Addr} {len cap : Nat} (i : Nat) (hlen : len ≤ 1048576) (hi : i ≤ 100) (hc : dw.Code w w.heap.size a len) :
    ∃ n : Nat, n < 256 ∧ ∀ W : World, qi.T w W → Calls Try.prog 29 #[.slice a len cap, .int .i64 i] W fun e w' => e = .returned (.int .i64 n) ∧ W = w' := by
  by_cases hil : i < len
  · rcases hc with h0 | ⟨b, off, rfl, hb, hcells⟩
    · omega
    obtain ⟨v, hv, hcell0⟩ := hcells i hil
    clear hcells
    refine ⟨v, hv, fun W hT => ?_⟩
    have hcell := (Below.cell hT (p := ⟨b, off + i, none⟩) hb).trans hcell0
    clear hcell0
    go_enter Try.func29, Try.ntmps29
    go_wp2
    go_ret
    exact ⟨rfl, rfl⟩
  · clear hc
    refine ⟨(i * 7 + len) % 256, Nat.mod_lt _ (by decide), fun W _ => ?_⟩
    go_enter Try.func29, Try.ntmps29
    go_wp2
    go_ret
    exact ⟨by simp, rfl⟩

section
variable {w : World}
theorem cPutS (k c : Int) (p : ByteArray) (W : World) (hT : qi.T w W) (hk : k ≤ 9223372036854775807) (hc : c ≤ 9223372036854775807) :
    Calls Try.prog 23 #[.agg #[.int .i64 k, .int .i64 c, .string p]] W fun e w' => e = .returned (.string (pf.bytes k c p)) ∧ qi.T w w' :=
  (pf.spec_put k c p W hk hc).mono fun _ _ h => ⟨h.1, hT.next h.2⟩
theorem cOkS (k c : Int) (p : ByteArray) (W : World) (hT : qi.T w W) :
    Calls Try.prog 24 #[.agg #[.int .i64 k, .int .i64 c, .string p]] W fun e w' => e = .returned (.bool (fr.ok k c p)) ∧ qi.T w w' :=
  (fr.spec_ok k c p W).mono fun _ _ h => ⟨h.1, hT.next h.2⟩
theorem cOkI (k c : Int) (p : ByteArray) (W : World) (hT : qi.T w W) :
    Calls Try.prog 25 #[.agg #[.int .i64 k, .int .i64 c, .string p]] W fun e w' => e = .returned (.bool (fr.ok k c p)) ∧ qi.T w w' :=
  (fr.impl_ok k c p W).mono fun _ _ h => ⟨h.1, hT.next h.2⟩
end
/-- a frame's box is there in every world behind -/
theorem box_at {W W' : World} {b : Nat} {x y z : Value} {t : TypeId} (h : W.heap[b]? = some (.cells #[x, y, z] t (0, 0))) (hT : qi.T W W') : W'.cell? ⟨b, 0, none⟩ = some x ∧ W'.cell? ⟨b, 1, none⟩ = some y ∧ W'.cell? ⟨b, 2, none⟩ = some z := by
  have hlt : b < W.heap.size := (Array.getElem?_eq_some_iff.1 h).1
  have hb : W'.heap[b]? = some (.cells #[x, y, z] t (0, 0)) := (Below.block hT b hlt).trans h
  simp [World.cell?, hb]
theorem box_keep {W W' : World} {b : Nat} {o : Obj} (h : W.heap[b]? = some o) (hT : Below W.heap.size W W') : W'.heap[b]? = some o := (hT.block b (Array.getElem?_eq_some_iff.1 h).1).trans h

theorem lt_of {w : World} {o : Obj} {n : Nat} (h : (w.alloc o).heap.size ≤ n) : w.heap.size < n := by rw [World.size_alloc] at h; omega
theorem val_ok {k c : Int} {p S : ByteArray} (h : fr.ok k c p = true) (hS : pf.bytes k c p = S) (u : ByteArray) : nf.val (S ++ u) = .tuple #[.agg #[.int .i64 k, .int .i64 c, .string p], .int .i64 ((p.size : Int) + 8), .int .i64 0] := by
  obtain ⟨n1, n2, n3, n4, n5, _⟩ := fp.next_put h u
  rw [hS] at n1 n2 n3 n4 n5
  unfold nf.val
  rw [if_pos n1, n2, n3, n4, n5]
theorem val_part {k c : Int} {p S : ByteArray} (h : fr.ok k c p = true) (hS : pf.bytes k c p = S) (j : Nat) (hj : j < S.size) : nf.val (S.extract 0 j) = .tuple #[.agg #[.int .i64 0, .int .i64 0, .string ⟨#[]⟩], .int .i64 0, .int .i64 1] := by
  have h1 := fp.part_put h j (by rw [hS]; exact hj)
  rw [hS] at h1
  unfold nf.val
  rw [if_neg (by rw [h1]; decide), h1]
  rfl
theorem slice_to (v : ByteArray) (n : Nat) (h : n ≤ v.size) (W : World) : (Instr.slice 9 (.string v) none (some (.int .i64 (n : Int))) none).run Try.prog W = .ok (.string (v.extract 0 n)) W := by
  rw [run_slice_string_h (P := Try.prog) W 9 v Try.underlying9 .i64 (n : Int) (by omega) (by omega), show ((n : Int)).toNat = n by omega]
theorem two_boxes {W W' : World} {a b : Nat} {x y z x' y' z' : Value} {t : TypeId} (h1 : W.heap[a]? = some (.cells #[x, y, z] t (0, 0))) (h2 : W.heap[b]? = some (.cells #[x', y', z'] t (0, 0))) (hb : Below W.heap.size W W') :
    (W'.cell? ⟨a, 0, none⟩ = some x ∧ W'.cell? ⟨a, 1, none⟩ = some y ∧ W'.cell? ⟨a, 2, none⟩ = some z) ∧ (W'.cell? ⟨b, 0, none⟩ = some x' ∧ W'.cell? ⟨b, 1, none⟩ = some y' ∧ W'.cell? ⟨b, 2, none⟩ = some z') ∧ a < W'.heap.size ∧ b < W'.heap.size ∧ a ≠ W'.heap.size ∧ b ≠ W'.heap.size := by
  have l1 := (Array.getElem?_eq_some_iff.1 h1).1
  have l2 := (Array.getElem?_eq_some_iff.1 h2).1
  have hs := hb.size
  exact ⟨box_at h1 hb, box_at h2 hb, by omega, by omega, by omega, by omega⟩
theorem cat_take (l : List Fr) (i : Nat) (h : i < l.length) : fp.cat (l.take (i + 1)) = fp.cat (l.take i) ++ pf.bytes l[i].k l[i].c l[i].p := by
  rw [← fp.cat_snoc, List.take_append_getElem]
theorem cat_le : ∀ (l : List Fr) (i : Nat), (fp.cat (l.take i)).size ≤ (fp.cat l).size
  | [], i => by simp
  | f :: l, 0 => Nat.zero_le _
  | f :: l, i + 1 => by
    have := cat_le l i
    simp only [List.take_succ_cons, fp.cat, ByteArray.size_append]
    omega

set_option maxRecDepth 100000 in
set_option maxHeartbeats 60000000 in
theorem walk (a0 : Option Addr) (len0 cap0 : Nat) (w : World) (hcode : dw.Code w w.heap.size a0 len0) :
    Calls Try.prog 3 #[.slice a0 len0 cap0] w fun e w' => e = .returned (.bool true) ∧ Below w.heap.size w w' := by
  by_cases hbig : (1048576 : Int) < len0
  · clear hcode
    go_enter Try.func3, Try.ntmps3
    go_wp2
    go_ret
    exact ⟨rfl, Below.refl _ _⟩
  have hlen : len0 ≤ 1048576 := by omega
  have HC : Hid (dw.Code w w.heap.size a0 len0) := hcode
  clear hcode
  go_enter Try.func3, Try.ntmps3
  go_wp2_with (first | (go_at_call 17; refine (big_no a0 len0 cap0 w hlen).mono ?_; rintro e w' ⟨rfl, rfl⟩) | (go_at_call 18; refine (df.draw_PutFrame a0 len0 cap0 w hlen HC.out).mono ?_; rintro e w1 ⟨⟨k, c, p, hk1, hk2, hc1, hc2, hp, rfl⟩, hb1⟩))
  obtain ⟨S, hS⟩ : ∃ S, pf.bytes k c p = S := ⟨_, rfl⟩
  have HS : Hid (pf.bytes k c p = S) := hS
  have hput := fun W => pf.impl_put k c p W (by omega) (by omega)
  rw [hS] at hput
  have hSs := pf.bytes_size k c p
  rw [hS] at hSs
  have ha1 : Below w.heap.size w (w1.alloc (.cells #[.int .i64 k, .int .i64 c, .string p] 25)) := hb1.alloc hb1.size _
  have hx3 : (w1.alloc (.cells #[.int .i64 k, .int .i64 c, .string p] 25)).heap[w1.heap.size]? = some (.cells #[.int .i64 k, .int .i64 c, .string p] 25 (0, 0)) := heap_alloc_new w1 _
  clear hS
  go_wp2_with (first | (go_at_call 19; refine (hput _).mono ?_; rintro e w2 ⟨rfl, hb2⟩; have hT2 : qi.T w w2 := ha1.trans (hb2.mono ha1.size)) | (go_at_call 20; refine (df.draw_NextFrame a0 len0 cap0 w2 hlen (Code.top HC.out hT2)).mono ?_; rintro e w3 ⟨⟨u, hu, rfl⟩, hb3⟩))
  obtain ⟨xk, xc, xp, xn, xd, hv⟩ := nf.val_form u
  have hn1 := fun W => nf.impl_next u W (by omega)
  have hn2 := fun W => nf.spec_next u W (by omega)
  rw [hv] at hn1 hn2
  clear hv hput
  go_wp2_with (first | (go_at_call 21; refine (hn1 _).mono ?_; rintro e w4 ⟨rfl, hb4⟩) | (go_at_call 22; refine (hn2 _).mono ?_; rintro e w5 ⟨rfl, hb5⟩))
  have y2 := box_keep hx3 hb2
  have y3 := box_keep y2 hb3
  have y4 := box_keep y3 hb4
  have hb4a : Below w4.heap.size w4 (w4.alloc (.cells #[.int .i64 xk, .int .i64 xc, .string xp] 25)) := (Below.refl _ _).alloc (Nat.le_refl _) _
  have hb5a : Below w5.heap.size w5 (w5.alloc (.cells #[.int .i64 xk, .int .i64 xc, .string xp] 25)) := (Below.refl _ _).alloc (Nat.le_refl _) _
  have y6 := box_keep (box_keep (box_keep y4 hb4a) hb5) hb5a
  have z6 := box_keep (box_keep (heap_alloc_new w4 (.cells #[.int .i64 xk, .int .i64 xc, .string xp] 25)) hb5) hb5a
  have v6 := heap_alloc_new w5 (.cells #[.int .i64 xk, .int .i64 xc, .string xp] 25)
  have hT6 : qi.T w (w5.alloc (.cells #[.int .i64 xk, .int .i64 xc, .string xp] 25)) := ((((hT2.next hb3).next hb4).next hb4a).next hb5).next hb5a
  obtain ⟨W6, hW6⟩ : ∃ W6, w5.alloc (.cells #[.int .i64 xk, .int .i64 xc, .string xp] 25) = W6 := ⟨_, rfl⟩
  rw [hW6] at y6 z6 v6 hT6 ⊢
  have m3 := fun N : qi.Cls W6 => box_at y6 N.h
  have m6 := fun N : qi.Cls W6 => box_at z6 N.h
  have m9 := fun N : qi.Cls W6 => box_at v6 N.h
  have m30 := fun N => (m3 N).1
  have m31 := fun N => (m3 N).2.1
  have m32 := fun N => (m3 N).2.2
  have m60 := fun N => (m6 N).1
  have m61 := fun N => (m6 N).2.1
  have m62 := fun N => (m6 N).2.2
  have m90 := fun N => (m9 N).1
  have m91 := fun N => (m9 N).2.1
  have m92 := fun N => (m9 N).2.2
  have hpS := fun N : qi.Cls W6 => cPutS k c p N.x N.h (by omega) (by omega)
  rw [HS.out] at hpS
  have hoS := fun N : qi.Cls W6 => cOkS k c p N.x N.h
  have hoI := fun N : qi.Cls W6 => cOkI k c p N.x N.h
  have Y6 : Hid (W6.heap[w1.heap.size]? = some (.cells #[.int .i64 k, .int .i64 c, .string p] 25 (0, 0))) := y6
  clear m3 m6 m9 y2 y3 y4 hb4a hb5a hW6 y6 z6 v6 hx3 ha1 hb1 hb2 hb3 hb4 hb5 hT2 hn1 hn2
  by_cases hok : fr.ok k c p = true
  · have hsz := (fp.next_put hok ⟨#[]⟩).2.2.2.2.2
    rw [HS.out] at hsz
    obtain ⟨hl1, hl2⟩ := nf.not_empty (s := S) (by omega)
    simp only [hok] at hoS hoI
    have HOK : Hid (fr.ok k c p = true) := hok
    have HSZ : Hid (S.size = p.size + 8) := hsz
    clear hok hsz
    refine qi.region_in W6 (qi.T.refl W6) (by kernel_rfl) (by kernel_rfl) ?_
    repeat (go_big_quiet_step (first | (go_at_call 23; refine (hpS _).mono ?_; rintro e wx ⟨rfl, hTx⟩; exact ⟨rfl, ⟨wx, hTx⟩, rfl⟩) | (go_at_call 24; refine (hoS _).mono ?_; rintro e wx ⟨rfl, hTx⟩; exact ⟨rfl, ⟨wx, hTx⟩, rfl⟩) | (go_at_call 25; refine (hoI _).mono ?_; rintro e wx ⟨rfl, hTx⟩; exact ⟨rfl, ⟨wx, hTx⟩, rfl⟩)))
    refine wpQuiet_nil ?_
    rintro _ ⟨N, rfl⟩
    have hN := N.h
    generalize N.x = wN at hN ⊢
    clear N
    clear hpS hoS hoI m30 m31 m32 m60 m61 m62 m90 m91 m92
    have hTN : qi.T w wN := hT6.next hN
    go_wp2_with (go_at_call 26; refine (df.draw_Frames a0 len0 cap0 wN hlen (Code.top HC.out hTN)).mono ?_; rintro e w7 ⟨⟨v, hv, rfl⟩, hb7⟩)
    have hT7 : qi.T W6 w7 := qi.T.next hN hb7
    have hfI := fm.impl_frames v w7 (by omega)
    have hfS := fun W => spec_frames v W (by omega)
    have hcat := fp.cat_frs 200 v
    have hlen2 := frs_length 200 v
    have hgood := fp.good_frs 200 v
    obtain ⟨⟨l, n0, c0⟩, hL⟩ : ∃ L, frs 200 v = L := ⟨_, rfl⟩
    rw [hL] at hfI hcat hlen2 hgood
    simp only [hL] at hfS
    have hcat : fp.cat l = v.extract 0 n0 ∧ n0 ≤ v.size := hcat
    have hlen2 : l.length ≤ 200 := hlen2
    obtain ⟨hcat1, hcat2⟩ := hcat
    have hgood : ∀ f ∈ l, fr.ok f.k f.c f.p = true := hgood
    clear hL
    by_cases hnil : l = []
    · subst hnil
      go_wp2_with (first | (go_at_call 27; refine hfI.mono ?_; rintro e w8 ⟨⟨v8, rfl, hv8⟩, hb8⟩; obtain ⟨a8, c8, rfl⟩ := fk.rowed_nil hv8) | (go_at_call 28; refine (hfS _).mono ?_; rintro e w9 ⟨⟨v9, rfl, hv9⟩, hb9⟩; obtain ⟨a9, c9, rfl⟩ := fk.rowed_nil hv9))
      have hT9 : qi.T W6 w9 := (hT7.next hb8).next hb9
      have hsl := fun W => slice_to v n0 hcat2 W
      have hE0 : v.extract 0 n0 = ⟨#[]⟩ := hcat1.symm
      simp only [hE0] at hsl
      clear hv8 hv9 hfI hfS hgood hcat1 hb7 hb8 hb9 hT7 hE0 hlen2
      go_loop [19, 20] (fun y x => x = .int .i64 0 ∧ y = .string ⟨#[]⟩) (fun _ _ => 0)
      case atStart => exact ⟨rfl, rfl⟩
      case round =>
        obtain ⟨rfl, rfl⟩ := hrel
        have hTe : qi.T W6 w9 := hT9
        have hTw : qi.T w w9 := hT6.next hTe
        obtain ⟨n3, hn3, hat3⟩ := law_at (cap := cap0) 3 hlen (by decide) HC.out
        obtain ⟨j, hjl, hj⟩ : ∃ j : Nat, j < S.size ∧ (n3 : Int) % (S.size : Int) = (j : Int) := ⟨n3 % S.size, Nat.mod_lt _ (by rw [HSZ.out]; exact Nat.succ_pos _), by simp⟩
        have hsl2 := fun W => slice_to S j (Nat.le_of_lt hjl) W
        have hjs : (S.extract 0 j).size ≤ 5000 := by rw [ByteArray.size_extract]; omega
        have hnA := fun W => nf.impl_next (S ++ u) W (by rw [ByteArray.size_append]; omega)
        have hnB := fun W => nf.impl_next (S.extract 0 j) W (by omega)
        simp only [val_ok HOK.out HS.out u] at hnA
        simp only [val_part HOK.out HS.out j hjl] at hnB
        obtain ⟨R, hR⟩ : ∃ R, S.extract 0 j = R := ⟨_, rfl⟩
        simp only [hR] at hsl2 hnB
        have hq8 : (((p.size : Int) + 8) == (S.size : Int)) = true := by rw [HSZ.out]; simp
        have hS1 : 1 ≤ S.size := by rw [HSZ.out]; omega
        have hw1l : w1.heap.size < W6.heap.size := (Array.getElem?_eq_some_iff.1 Y6.out).1
        have HTE : Hid (qi.T W6 w9) := hTe
        have HTW : Hid (qi.T w w9) := hTw
        clear hR hjs hTe hTw hT9 hTN hN hcat2
        have t1 : True := trivial
        go_wp2_with (go_at_call 21; have _t := t1; refine (hnA _).mono ?_; rintro e wa ⟨rfl, hba⟩; clear t1)
        have hTa : qi.T w (wa.alloc (.cells #[.int .i64 k, .int .i64 c, .string p] 25)) := (HTW.out.next hba).next ((Below.refl _ _).alloc (Nat.le_refl _) _)
        have hTb : qi.T W6 (wa.alloc (.cells #[.int .i64 k, .int .i64 c, .string p] 25)) := (HTE.out.next hba).next ((Below.refl _ _).alloc (Nat.le_refl _) _)
        refine (hat3 _ hTa).mono ?_
        rintro e _ ⟨rfl, rfl⟩
        have hxa := heap_alloc_new wa (.cells #[.int .i64 k, .int .i64 c, .string p] 25)
        have hya := box_keep Y6.out hTb
        have hsw : (wa.alloc (.cells #[.int .i64 k, .int .i64 c, .string p] 25)).heap.size = wa.heap.size + 1 := World.size_alloc _ _
        have hw1a : w1.heap.size < wa.heap.size + 1 := by
          have h1 := (Array.getElem?_eq_some_iff.1 hya).1
          omega
        obtain ⟨WA, hWA⟩ : ∃ WA, wa.alloc (.cells #[.int .i64 k, .int .i64 c, .string p] 25) = WA := ⟨_, rfl⟩
        rw [hWA] at hTa hTb hxa hya hsw ⊢
        have HTA : Hid (qi.T w WA) := hTa
        clear hTa hTb hba hnA hat3 hWA HTE HTW
        go_wp2_with (go_at_call 21; refine (hnB _).mono ?_; rintro e wb ⟨rfl, hbb⟩; obtain ⟨⟨qa0, qa1, qa2⟩, ⟨qb0, qb1, qb2⟩, hla, hlb, hna, hnb⟩ := two_boxes hxa hya hbb)
        go_ret
        exact ⟨rfl, (HTA.out.next hbb).next ((Below.refl _ _).alloc (Nat.le_refl _) _)⟩
    · go_wp2_with (first | (go_at_call 27; refine hfI.mono ?_; rintro e w8 ⟨⟨v8, rfl, hv8⟩, hb8⟩; obtain ⟨g8, c8, rfl, hg8, hh8⟩ := fk.rowed_cons hnil hv8) | (go_at_call 28; refine (hfS _).mono ?_; rintro e w9 ⟨⟨v9, rfl, hv9⟩, hb9⟩; obtain ⟨g9, c9, rfl, hg9, hh9⟩ := fk.rowed_cons hnil hv9; have hh89 := fk.Has.below hh8 hb9 (fk.Has.lt hh8)))
      have hT9 : qi.T W6 w9 := (hT7.next hb8).next hb9
      have H8 : Hid (Has w9 g8 c8 l) := hh89
      have H9 : Hid (Has w9 g9 c9 l) := hh9
      have hg8l := fk.Has.lt hh89
      have hg9l := fk.Has.lt hh9
      have HG : Hid (∀ f ∈ l, fr.ok f.k f.c f.p = true) := hgood
      have HCAT : Hid (fp.cat l = v.extract 0 n0) := hcat1
      have HCS : Hid (∀ i, (fp.cat (l.take i)).size ≤ 100000) := by
        intro i
        have h1 := cat_le l i
        rw [hcat1, ByteArray.size_extract] at h1
        omega
      clear hh8 hh9 hh89 hv8 hv9 hfI hfS hgood hcat1 hb7 hb8 hb9 hT7
      go_loopw [19, 20] (fun y x wr => ∃ i : Nat, i ≤ l.length ∧ x = .int .i64 i ∧ y = .string (fp.cat (l.take i)) ∧ qi.T w9 wr) (fun _ x _ => l.length - (intOf x).toNat)
      case atStart => exact ⟨0, Nat.zero_le _, rfl, rfl, qi.T.refl _⟩
      case round =>
        obtain ⟨i, hi, rfl, rfl, hTr⟩ := hrel
        by_cases hil : i < l.length
        · obtain ⟨ca0, ca1, ca2⟩ := fk.Has.at (fk.Has.below H8.out hTr hg8l) i hil
          obtain ⟨cb0, cb1, cb2⟩ := fk.Has.at (fk.Has.below H9.out hTr hg9l) i hil
          have hct := cat_take l i hil
          have hfo := HG.out l[i] (List.getElem_mem hil)
          obtain ⟨⟨fk', fc', fp'⟩, hf⟩ : ∃ f, l[i] = f := ⟨_, rfl⟩
          rw [hf] at ca0 ca1 ca2 cb0 cb1 cb2 hct hfo
          have hfb := fr.ok_true.1 hfo
          have hkb : fk' ≤ 100 := by
            have hk0 := hfb.1
            unfold fr.kind at hk0
            simp at hk0
            omega
          have hcb : fc' ≤ 65535 := hfb.2.2.1
          obtain ⟨q, hq⟩ : ∃ q, pf.bytes fk' fc' fp' = q := ⟨_, rfl⟩
          obtain ⟨t, ht⟩ : ∃ t, fp.cat (l.take i) = t := ⟨_, rfl⟩
          have hqs := pf.bytes_size fk' fc' fp'
          have hts := HCS.out i
          have hpt := fun W => pf.impl_put fk' fc' fp' W (by omega) (by omega)
          rw [hq] at hct hqs hpt
          rw [ht] at hct hts ⊢
          have HCT : Hid (t ++ q = fp.cat (l.take (i + 1))) := hct.symm
          clear hf hfb hfo hq ht hct
          go_wp2
          go_region
          all_goals go_wp2_with (go_at_call 19; refine (hpt _).mono ?_; rintro e wp ⟨rfl, hbp⟩)
          all_goals go_roundw
          all_goals first | exact ⟨i + 1, by omega, by go_num, by rw [HCT.out], hTr.drew.next hbp⟩ | (simp [intOf]; omega)
        · obtain rfl : i = l.length := by omega
          have hE : fp.cat (l.take l.length) = v.extract 0 n0 := by rw [List.take_length]; exact HCAT.out
          have hsl := fun W => slice_to v n0 hcat2 W
          obtain ⟨E, hEE⟩ : ∃ E, v.extract 0 n0 = E := ⟨_, rfl⟩
          rw [hEE] at hE
          simp only [hEE] at hsl
          rw [hE]
          have hTe : qi.T W6 wr := hT9.next hTr
          have hTw : qi.T w wr := hT6.next hTe
          obtain ⟨n3, hn3, hat3⟩ := law_at (cap := cap0) 3 hlen (by decide) HC.out
          obtain ⟨j, hjl, hj⟩ : ∃ j : Nat, j < S.size ∧ (n3 : Int) % (S.size : Int) = (j : Int) := ⟨n3 % S.size, Nat.mod_lt _ (by rw [HSZ.out]; exact Nat.succ_pos _), by simp⟩
          have hsl2 := fun W => slice_to S j (Nat.le_of_lt hjl) W
          have hjs : (S.extract 0 j).size ≤ 5000 := by rw [ByteArray.size_extract]; omega
          have hnA := fun W => nf.impl_next (S ++ u) W (by rw [ByteArray.size_append]; omega)
          have hnB := fun W => nf.impl_next (S.extract 0 j) W (by omega)
          simp only [val_ok HOK.out HS.out u] at hnA
          simp only [val_part HOK.out HS.out j hjl] at hnB
          obtain ⟨R, hR⟩ : ∃ R, S.extract 0 j = R := ⟨_, rfl⟩
          simp only [hR] at hsl2 hnB
          have hq8 : (((p.size : Int) + 8) == (S.size : Int)) = true := by rw [HSZ.out]; simp
          have hS1 : 1 ≤ S.size := by rw [HSZ.out]; omega
          have hw1l : w1.heap.size < W6.heap.size := (Array.getElem?_eq_some_iff.1 Y6.out).1
          have HTE : Hid (qi.T W6 wr) := hTe
          have HTW : Hid (qi.T w wr) := hTw
          clear hE hEE hR hjs hTe hTw hTr hT9 hTN hN hcat2 H8 H9 HG HCAT HCS hlen2 hnil hg8 hg9 hg8l hg9l
          have t1 : True := trivial
          go_wp2_with (go_at_call 21; have _t := t1; refine (hnA _).mono ?_; rintro e wa ⟨rfl, hba⟩; clear t1)
          have hTa : qi.T w (wa.alloc (.cells #[.int .i64 k, .int .i64 c, .string p] 25)) := (HTW.out.next hba).next ((Below.refl _ _).alloc (Nat.le_refl _) _)
          have hTb : qi.T W6 (wa.alloc (.cells #[.int .i64 k, .int .i64 c, .string p] 25)) := (HTE.out.next hba).next ((Below.refl _ _).alloc (Nat.le_refl _) _)
          refine (hat3 _ hTa).mono ?_
          rintro e _ ⟨rfl, rfl⟩
          have hxa := heap_alloc_new wa (.cells #[.int .i64 k, .int .i64 c, .string p] 25)
          have hya := box_keep Y6.out hTb
          have hsw : (wa.alloc (.cells #[.int .i64 k, .int .i64 c, .string p] 25)).heap.size = wa.heap.size + 1 := World.size_alloc _ _
          have hw1a : w1.heap.size < wa.heap.size + 1 := by
            have h1 := (Array.getElem?_eq_some_iff.1 hya).1
            omega
          obtain ⟨WA, hWA⟩ : ∃ WA, wa.alloc (.cells #[.int .i64 k, .int .i64 c, .string p] 25) = WA := ⟨_, rfl⟩
          rw [hWA] at hTa hTb hxa hya hsw ⊢
          have HTA : Hid (qi.T w WA) := hTa
          clear hTa hTb hba hnA hat3 hWA HTE HTW
          go_wp2_with (go_at_call 21; refine (hnB _).mono ?_; rintro e wb ⟨rfl, hbb⟩; obtain ⟨⟨qa0, qa1, qa2⟩, ⟨qb0, qb1, qb2⟩, hla, hlb, hna, hnb⟩ := two_boxes hxa hya hbb)
          go_ret
          exact ⟨rfl, (HTA.out.next hbb).next ((Below.refl _ _).alloc (Nat.le_refl _) _)⟩
  · have hokF : fr.ok k c p = false := by simpa using hok
    obtain rfl : S = ⟨#[]⟩ := by
      rw [← HS.out]
      unfold pf.bytes
      rw [hokF]
      rfl
    simp only [hokF] at hoS hoI
    clear hok hokF HS
    refine qi.region_in W6 (qi.T.refl W6) (by kernel_rfl) (by kernel_rfl) ?_
    repeat (go_big_quiet_step (first | (go_at_call 23; refine (hpS _).mono ?_; rintro e wx ⟨rfl, hTx⟩; exact ⟨rfl, ⟨wx, hTx⟩, rfl⟩) | (go_at_call 24; refine (hoS _).mono ?_; rintro e wx ⟨rfl, hTx⟩; exact ⟨rfl, ⟨wx, hTx⟩, rfl⟩) | (go_at_call 25; refine (hoI _).mono ?_; rintro e wx ⟨rfl, hTx⟩; exact ⟨rfl, ⟨wx, hTx⟩, rfl⟩)))
    refine wpQuiet_nil ?_
    rintro _ ⟨N, rfl⟩
    have hN := N.h
    generalize N.x = wN at hN ⊢
    clear N
    clear hpS hoS hoI m30 m31 m32 m60 m61 m62 m90 m91 m92
    have hTN : qi.T w wN := hT6.next hN
    go_wp2_with (go_at_call 26; refine (df.draw_Frames a0 len0 cap0 wN hlen (Code.top HC.out hTN)).mono ?_; rintro e w7 ⟨⟨v, hv, rfl⟩, hb7⟩)
    have hT7 : qi.T W6 w7 := qi.T.next hN hb7
    have hfI := fm.impl_frames v w7 (by omega)
    have hfS := fun W => spec_frames v W (by omega)
    have hcat := fp.cat_frs 200 v
    have hlen2 := frs_length 200 v
    have hgood := fp.good_frs 200 v
    obtain ⟨⟨l, n0, c0⟩, hL⟩ : ∃ L, frs 200 v = L := ⟨_, rfl⟩
    rw [hL] at hfI hcat hlen2 hgood
    simp only [hL] at hfS
    have hcat : fp.cat l = v.extract 0 n0 ∧ n0 ≤ v.size := hcat
    have hlen2 : l.length ≤ 200 := hlen2
    obtain ⟨hcat1, hcat2⟩ := hcat
    have hgood : ∀ f ∈ l, fr.ok f.k f.c f.p = true := hgood
    clear hL
    by_cases hnil : l = []
    · subst hnil
      go_wp2_with (first | (go_at_call 27; refine hfI.mono ?_; rintro e w8 ⟨⟨v8, rfl, hv8⟩, hb8⟩; obtain ⟨a8, c8, rfl⟩ := fk.rowed_nil hv8) | (go_at_call 28; refine (hfS _).mono ?_; rintro e w9 ⟨⟨v9, rfl, hv9⟩, hb9⟩; obtain ⟨a9, c9, rfl⟩ := fk.rowed_nil hv9))
      have hT9 : qi.T W6 w9 := (hT7.next hb8).next hb9
      have hsl := fun W => slice_to v n0 hcat2 W
      have hE0 : v.extract 0 n0 = ⟨#[]⟩ := hcat1.symm
      simp only [hE0] at hsl
      clear hv8 hv9 hfI hfS hgood hcat1 hb7 hb8 hb9 hT7 hE0 hlen2
      go_loop [19, 20] (fun y x => x = .int .i64 0 ∧ y = .string ⟨#[]⟩) (fun _ _ => 0)
      case atStart => exact ⟨rfl, rfl⟩
      case round =>
        obtain ⟨rfl, rfl⟩ := hrel
        have HTW : Hid (qi.T w w9) := hT6.next hT9
        go_wp2
        go_ret
        exact ⟨rfl, HTW.out⟩
    · go_wp2_with (first | (go_at_call 27; refine hfI.mono ?_; rintro e w8 ⟨⟨v8, rfl, hv8⟩, hb8⟩; obtain ⟨g8, c8, rfl, hg8, hh8⟩ := fk.rowed_cons hnil hv8) | (go_at_call 28; refine (hfS _).mono ?_; rintro e w9 ⟨⟨v9, rfl, hv9⟩, hb9⟩; obtain ⟨g9, c9, rfl, hg9, hh9⟩ := fk.rowed_cons hnil hv9; have hh89 := fk.Has.below hh8 hb9 (fk.Has.lt hh8)))
      have hT9 : qi.T W6 w9 := (hT7.next hb8).next hb9
      have H8 : Hid (Has w9 g8 c8 l) := hh89
      have H9 : Hid (Has w9 g9 c9 l) := hh9
      have hg8l := fk.Has.lt hh89
      have hg9l := fk.Has.lt hh9
      have HG : Hid (∀ f ∈ l, fr.ok f.k f.c f.p = true) := hgood
      have HCAT : Hid (fp.cat l = v.extract 0 n0) := hcat1
      have HCS : Hid (∀ i, (fp.cat (l.take i)).size ≤ 100000) := by
        intro i
        have h1 := cat_le l i
        rw [hcat1, ByteArray.size_extract] at h1
        omega
      clear hh8 hh9 hh89 hv8 hv9 hfI hfS hgood hcat1 hb7 hb8 hb9 hT7
      go_loopw [19, 20] (fun y x wr => ∃ i : Nat, i ≤ l.length ∧ x = .int .i64 i ∧ y = .string (fp.cat (l.take i)) ∧ qi.T w9 wr) (fun _ x _ => l.length - (intOf x).toNat)
      case atStart => exact ⟨0, Nat.zero_le _, rfl, rfl, qi.T.refl _⟩
      case round =>
        obtain ⟨i, hi, rfl, rfl, hTr⟩ := hrel
        by_cases hil : i < l.length
        · obtain ⟨ca0, ca1, ca2⟩ := fk.Has.at (fk.Has.below H8.out hTr hg8l) i hil
          obtain ⟨cb0, cb1, cb2⟩ := fk.Has.at (fk.Has.below H9.out hTr hg9l) i hil
          have hct := cat_take l i hil
          have hfo := HG.out l[i] (List.getElem_mem hil)
          obtain ⟨⟨fk', fc', fp'⟩, hf⟩ : ∃ f, l[i] = f := ⟨_, rfl⟩
          rw [hf] at ca0 ca1 ca2 cb0 cb1 cb2 hct hfo
          have hfb := fr.ok_true.1 hfo
          have hkb : fk' ≤ 100 := by
            have hk0 := hfb.1
            unfold fr.kind at hk0
            simp at hk0
            omega
          have hcb : fc' ≤ 65535 := hfb.2.2.1
          obtain ⟨q, hq⟩ : ∃ q, pf.bytes fk' fc' fp' = q := ⟨_, rfl⟩
          obtain ⟨t, ht⟩ : ∃ t, fp.cat (l.take i) = t := ⟨_, rfl⟩
          have hqs := pf.bytes_size fk' fc' fp'
          have hts := HCS.out i
          have hpt := fun W => pf.impl_put fk' fc' fp' W (by omega) (by omega)
          rw [hq] at hct hqs hpt
          rw [ht] at hct hts ⊢
          have HCT : Hid (t ++ q = fp.cat (l.take (i + 1))) := hct.symm
          clear hf hfb hfo hq ht hct
          go_wp2
          go_region
          all_goals go_wp2_with (go_at_call 19; refine (hpt _).mono ?_; rintro e wp ⟨rfl, hbp⟩)
          all_goals go_roundw
          all_goals first | exact ⟨i + 1, by omega, by go_num, by rw [HCT.out], hTr.drew.next hbp⟩ | (simp [intOf]; omega)
        · obtain rfl : i = l.length := by omega
          have hE : fp.cat (l.take l.length) = v.extract 0 n0 := by rw [List.take_length]; exact HCAT.out
          have hsl := fun W => slice_to v n0 hcat2 W
          obtain ⟨E, hEE⟩ : ∃ E, v.extract 0 n0 = E := ⟨_, rfl⟩
          rw [hEE] at hE
          simp only [hEE] at hsl
          rw [hE]
          have HTW : Hid (qi.T w wr) := hT6.next (hT9.next hTr)
          clear hE hEE
          go_wp2
          go_ret
          exact ⟨rfl, HTW.out⟩
end Go.Proofs.Ytkddnennodonhaa.fw
