/- The program's reader of a method, part by part: a text or a number is taken off the bytes and laid behind those that it has; it turns nothing that lay ahead of it. -/
import Derived.Test.YtljaogecddmfjaaDoorBoxRows
import Derived.Test.YtljaogecddmfjaaDoorGetShortWalks
import Derived.Test.YtljaogecddmfjaaDoorQuietIn
namespace Go.Proofs.YtljaogecddmfjaaDoor.rd
set_option linter.unusedVariables false
open Go.ChangeShapes Go.WideShapes Go.ChangeAt Go.RowKit Go.Proofs.YtljaogecddmfjaaDoor.ls Go.Proofs.YtljaogecddmfjaaDoor.me Go.Proofs.YtljaogecddmfjaaDoor.mp Go.Proofs.YtljaogecddmfjaaDoor.bx

theorem infoS : (Tryd.prog.info? 9).map (fun i => (i.zero, i.size, i.bytes)) = some (some (.string ByteArray.empty), 1, 16) := by kernel_rfl

set_option maxRecDepth 100000 in
theorem text_get (s : ByteArray) (p : Int) (z : Int) (B rb : Nat) (tv nv : Value) (ts : List ByteArray) (ns : List Int) (ps : List (Nat × Obj)) (w : World) (h : Bx w B rb 62 (.string s) (.int .i64 p) tv nv ts ns ps) (hs : s.size ≤ 1048576) (hp1 : -9223372036854775808 ≤ p) (hp2 : p ≤ 9223372036854775807) (ht : ts.length ≤ 1048576) (hB : B ≤ w.heap.size) :
    Calls Tryd.prog 72 #[.pointer (some ⟨rb, 0, none⟩), .int .i64 z] w fun e w' =>
      (e = .returned (.bool true) ∧ 0 ≤ gs.behind s p ∧ (∃ tv', Bx w' B rb 62 (.string s) (.int .i64 (gs.behind s p)) tv' nv (ts ++ [gs.text s p]) ns ps) ∧ Below B w w') ∨
      (e = .returned (.bool false) ∧ gs.behind s p < 0 ∧ Bx w' B rb 62 (.string s) (.int .i64 p) tv nv ts ns ps ∧ Below B w w') := by
  obtain ⟨i0, hi, hz0, hz1, hz2⟩ := info_parts infoS
  have hget := fun W => gs.impl_getShort s p W hs hp1 hp2
  obtain ⟨t, ht'⟩ : ∃ t, gs.text s p = t := ⟨_, rfl⟩
  obtain ⟨q, hq⟩ : ∃ q, gs.behind s p = q := ⟨_, rfl⟩
  simp only [ht', hq] at hget ⊢
  have hg0 : ∀ N : qi.Cls w, N.x.cell? ⟨rb, 0, none⟩ = some (.string s) := fun N => cell_of (o := 0) (h.below N.h).blk rfl
  have hg1 : ∀ N : qi.Cls w, N.x.cell? ⟨rb, 1, none⟩ = some (.int .i64 p) := fun N => cell_of (o := 1) (h.below N.h).blk rfl
  have H : Hid (Bx w B rb 62 (.string s) (.int .i64 p) tv nv ts ns ps) := h
  clear h ht' hq
  have hT := qi.T.refl w
  go_enter Tryd.func72, Tryd.ntmps72
  go_wp2
  refine qi.region_in _ hT (by kernel_rfl) (by kernel_rfl) ?_
  repeat (go_big_quiet_step ((go_at_call 86; refine (hget _).mono ?_; rintro e wx ⟨rfl, hTx⟩; exact ⟨rfl, ⟨wx, qi.T.next (qi.Cls.h _) hTx⟩, rfl⟩)))
  refine wpQuiet_nil ?_
  rintro _ ⟨N, rfl⟩
  have hN := N.h
  generalize N.x = wN at hN ⊢
  clear N hg0 hg1 hT
  have h1 := H.out.below hN
  have H1 : Hid (Bx wN B rb 62 (.string s) (.int .i64 p) tv nv ts ns ps) := h1
  have hbN : Below B w wN := Below.mono hN hB
  have hBN : B ≤ wN.heap.size := Nat.le_trans hB (qi.T.size hN)
  by_cases hq : q < 0
  · clear h1
    go_wp2
    go_ret
    exact .inr ⟨rfl, hq, H1.out, hbN⟩
  · have k2 : wN.cell? ⟨rb, 2, none⟩ = some tv := cell_of (o := 2) h1.blk rfl
    have hrl := h1.lt
    clear h1
    go_wp2_with (at_builtin; refine wpList_append_lies _ rfl _ _ 24 rfl B 9 i0 (.string ByteArray.empty) 1 16 Tryd.underlying24 hi hz0 hz1 hz2 rfl (by decide) _ _ _ rfl (H1.out.ot.alloc _) ⟨wN.heap.size, 0, none⟩ 1 1 [.string t] rfl rfl ?c1 ?c2 (by decide) ?c3 ?c4 ?c5 (wN.heap.size + 1) (by simp) ?_)
    case c2 => rfl
    case c3 => unfold maxLen; omega
    case c4 => omega
    case c5 => omega
    intro g cap w1 hown hgrow hat hlt
    have hal : Below wN.heap.size wN (wN.alloc (.cells #[.string t] 9)) := (Below.refl _ _).alloc (Nat.le_refl _) _
    have h2 := H1.out.below hal
    have hbx := h2.text hown hgrow (by simpa using hat)
    have hlo := low (rb := rb) ((hbN.trans (hal.mono hBN))) (by simp; omega) h2.ot hgrow h2.lo 2 (.slice (some ⟨g, 0, none⟩) (ts.length + 1) cap)
    have b1 := (hgrow.block rb h2.lt (Ne.symm h2.nt)).trans h2.blk
    have m2 : w1.cell? ⟨rb, 2, none⟩ = some tv := cell_of (o := 2) b1 rfl
    have f2 : w1.frozen? ⟨rb, 2, none⟩ = false := free_of (o := 2) b1
    have m1 : (w1.setCell ⟨rb, 2, none⟩ (.slice (some ⟨g, 0, none⟩) (ts.length + 1) cap)).cell? ⟨rb, 1, none⟩ = some (.int .i64 p) := cell_of (o := 1) hbx.blk rfl
    have f1 : (w1.setCell ⟨rb, 2, none⟩ (.slice (some ⟨g, 0, none⟩) (ts.length + 1) cap)).frozen? ⟨rb, 1, none⟩ = false := free_of (o := 1) hbx.blk
    have HBX : Hid (Bx ((w1.setCell ⟨rb, 2, none⟩ (.slice (some ⟨g, 0, none⟩) (ts.length + 1) cap)).setCell ⟨rb, 1, none⟩ (.int .i64 q)) B rb 62 (.string s) (.int .i64 q) (.slice (some ⟨g, 0, none⟩) (ts.length + 1) cap) nv (ts ++ [t]) ns ps) := hbx.set1 _
    have hlo2 : Below B w ((w1.setCell ⟨rb, 2, none⟩ (.slice (some ⟨g, 0, none⟩) (ts.length + 1) cap)).setCell ⟨rb, 1, none⟩ (.int .i64 q)) := hlo.setCell h2.lo _
    clear h2 hbx hlo b1 hal hown hgrow hat k2
    go_wp2
    go_ret
    exact .inl ⟨rfl, by omega, ⟨_, HBX.out⟩, hlo2⟩
set_option maxRecDepth 100000 in
theorem num_get (s : ByteArray) (p : Int) (z : Int) (B rb : Nat) (tv nv : Value) (ts : List ByteArray) (ns : List Int) (ps : List (Nat × Obj)) (w : World) (h : Bx w B rb 62 (.string s) (.int .i64 p) tv nv ts ns ps) (hs : s.size ≤ 1048576) (hp1 : -9223372036854775808 ≤ p) (hp2 : p ≤ 9223372036854775807) (ht : ns.length ≤ 1048576) (hB : B ≤ w.heap.size) :
    Calls Tryd.prog 74 #[.pointer (some ⟨rb, 0, none⟩), .int .i64 z] w fun e w' =>
      (e = .returned (.bool true) ∧ 0 ≤ gi.stop s p z ∧ (∃ nv', Bx w' B rb 62 (.string s) (.int .i64 (gi.stop s p z)) tv nv' ts (ns ++ [gi.num s p z]) ps) ∧ Below B w w') ∨
      (e = .returned (.bool false) ∧ gi.stop s p z < 0 ∧ Bx w' B rb 62 (.string s) (.int .i64 p) tv nv ts ns ps ∧ Below B w w') := by
  obtain ⟨i0, hi, hz0, hz1, hz2⟩ := info_parts infoI
  have hget := fun W => gi.impl_get s p z W hs hp1 hp2
  obtain ⟨t, ht'⟩ : ∃ t, gi.num s p z = t := ⟨_, rfl⟩
  obtain ⟨q, hq⟩ : ∃ q, gi.stop s p z = q := ⟨_, rfl⟩
  simp only [ht', hq] at hget ⊢
  have hg0 : ∀ N : qi.Cls w, N.x.cell? ⟨rb, 0, none⟩ = some (.string s) := fun N => cell_of (o := 0) (h.below N.h).blk rfl
  have hg1 : ∀ N : qi.Cls w, N.x.cell? ⟨rb, 1, none⟩ = some (.int .i64 p) := fun N => cell_of (o := 1) (h.below N.h).blk rfl
  have H : Hid (Bx w B rb 62 (.string s) (.int .i64 p) tv nv ts ns ps) := h
  clear h ht' hq
  have hT := qi.T.refl w
  go_enter Tryd.func74, Tryd.ntmps74
  go_wp2
  refine qi.region_in _ hT (by kernel_rfl) (by kernel_rfl) ?_
  repeat (go_big_quiet_step ((go_at_call 36; refine (hget _).mono ?_; rintro e _ ⟨rfl, rfl⟩; exact ⟨rfl, _, rfl⟩)))
  refine wpQuiet_nil ?_
  rintro _ ⟨N, rfl⟩
  have hN := N.h
  generalize N.x = wN at hN ⊢
  clear N hg0 hg1 hT
  have h1 := H.out.below hN
  have H1 : Hid (Bx wN B rb 62 (.string s) (.int .i64 p) tv nv ts ns ps) := h1
  have hbN : Below B w wN := Below.mono hN hB
  have hBN : B ≤ wN.heap.size := Nat.le_trans hB (qi.T.size hN)
  by_cases hq : q < 0
  · clear h1
    go_wp2
    go_ret
    exact .inr ⟨rfl, hq, H1.out, hbN⟩
  · have k2 : wN.cell? ⟨rb, 3, none⟩ = some nv := cell_of (o := 3) h1.blk rfl
    have hrl := h1.lt
    clear h1
    go_wp2_with (at_builtin; refine wpList_append_lies _ rfl _ _ 25 rfl B 3 i0 (.int .i64 0) 1 8 Tryd.underlying25 hi hz0 hz1 hz2 rfl (by decide) _ _ _ rfl (H1.out.on.alloc _) ⟨wN.heap.size, 0, none⟩ 1 1 [.int .i64 t] rfl rfl ?c1 ?c2 (by decide) ?c3 ?c4 ?c5 (wN.heap.size + 1) (by simp) ?_)
    case c2 => rfl
    case c3 => unfold maxLen; omega
    case c4 => omega
    case c5 => omega
    intro g cap w1 hown hgrow hat hlt
    have hal : Below wN.heap.size wN (wN.alloc (.cells #[.int .i64 t] 3)) := (Below.refl _ _).alloc (Nat.le_refl _) _
    have h2 := H1.out.below hal
    have hbx := h2.num hown hgrow (by simpa using hat)
    have hlo := low (rb := rb) ((hbN.trans (hal.mono hBN))) (by simp; omega) h2.on hgrow h2.lo 3 (.slice (some ⟨g, 0, none⟩) (ns.length + 1) cap)
    have b1 := (hgrow.block rb h2.lt (Ne.symm h2.nn)).trans h2.blk
    have m2 : w1.cell? ⟨rb, 3, none⟩ = some nv := cell_of (o := 3) b1 rfl
    have f2 : w1.frozen? ⟨rb, 3, none⟩ = false := free_of (o := 3) b1
    have m1 : (w1.setCell ⟨rb, 3, none⟩ (.slice (some ⟨g, 0, none⟩) (ns.length + 1) cap)).cell? ⟨rb, 1, none⟩ = some (.int .i64 p) := cell_of (o := 1) hbx.blk rfl
    have f1 : (w1.setCell ⟨rb, 3, none⟩ (.slice (some ⟨g, 0, none⟩) (ns.length + 1) cap)).frozen? ⟨rb, 1, none⟩ = false := free_of (o := 1) hbx.blk
    have HBX : Hid (Bx ((w1.setCell ⟨rb, 3, none⟩ (.slice (some ⟨g, 0, none⟩) (ns.length + 1) cap)).setCell ⟨rb, 1, none⟩ (.int .i64 q)) B rb 62 (.string s) (.int .i64 q) tv (.slice (some ⟨g, 0, none⟩) (ns.length + 1) cap) ts (ns ++ [t]) ps) := hbx.set1 _
    have hlo2 : Below B w ((w1.setCell ⟨rb, 3, none⟩ (.slice (some ⟨g, 0, none⟩) (ns.length + 1) cap)).setCell ⟨rb, 1, none⟩ (.int .i64 q)) := hlo.setCell h2.lo _
    clear h2 hbx hlo b1 hal hown hgrow hat k2
    go_wp2
    go_ret
    exact .inl ⟨rfl, by omega, ⟨_, HBX.out⟩, hlo2⟩
end Go.Proofs.YtljaogecddmfjaaDoor.rd
