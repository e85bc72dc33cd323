/- TableSize, of the specification and of the program: how many pairs there are; new memory alone. -/
import Derived.Test.YtoemkbooomgieaaGreatDoorDw20
import Derived.Test.YtoemkbooomgieaaGreatDoorDw22
import Derived.Test.YtoemkbooomgieaaGreatDoorDw13
import Derived.Lib.IndexBytes
import Derived.Test.YtoemkbooomgieaaGreatDoorDw21
import Derived.Test.YtoemkbooomgieaaGreatDoorDw14
import Derived.Test.YtoemkbooomgieaaGreatDoorDw01

/- FnStored: the program's StoreDo: a store that is right with the batch written down, or the same store. -/
namespace Go.Proofs.YtoemkbooomgieaaGreatDoor.sdd
open Go.ChangeShapes Go.WideShapes Go.ChangeAt Go.RowKit Go.Proofs.YtoemkbooomgieaaGreatDoor.fl Go.Proofs.YtoemkbooomgieaaGreatDoor.fo Go.Proofs.YtoemkbooomgieaaGreatDoor.rn Go.Proofs.YtoemkbooomgieaaGreatDoor.tk Go.Proofs.YtoemkbooomgieaaGreatDoor.tko Go.Proofs.YtoemkbooomgieaaGreatDoor.tan Go.Proofs.YtoemkbooomgieaaGreatDoor.sct Go.Proofs.YtoemkbooomgieaaGreatDoor.sok Go.Proofs.YtoemkbooomgieaaGreatDoor.rcI Go.Proofs.YtoemkbooomgieaaGreatDoor.sdl Go.Proofs.YtoemkbooomgieaaGreatDoor.sdp
set_option linter.unusedVariables false

/-- what stands on the way -/
structure Sd (w : World) (ys : List flP.Pr) (R : List (List flP.Pr)) (ya : Option Addr) (yc : Nat) (ra : Option Addr) (rc : Nat) (lg : ByteArray) (sf : Int) (X : World) : Prop where
  bel : Below w.heap.size w X
  box : X.heap[w.heap.size]? = some (.cells #[.slice ya ys.length yc, .slice ra R.length rc, .string lg, .int .i64 sf] 32 (0, 0))
  res : X.heap[w.heap.size + 1]? = some (.cells #[.slice none 0 0, .slice none 0 0, .string ⟨#[]⟩, .int .i64 0] 32 (0, 0))
section
variable {w X X' : World} {ys : List flP.Pr} {R : List (List flP.Pr)} {ya ra : Option Addr} {yc rc : Nat} {lg : ByteArray} {sf : Int}
theorem Sd.on (h : Sd w ys R ya yc ra rc lg sf X) (hb : Below X.heap.size X X') : Sd w ys R ya yc ra rc lg sf X' :=
  ⟨h.bel.trans (hb.mono h.bel.size), bstay h.box hb (Array.getElem?_eq_some_iff.1 h.box).1, bstay h.res hb (Array.getElem?_eq_some_iff.1 h.res).1⟩
theorem Sd.size (h : Sd w ys R ya yc ra rc lg sf X) : w.heap.size + 2 ≤ X.heap.size := (Array.getElem?_eq_some_iff.1 h.res).1
theorem ans_size {lg : ByteArray} {l : List flP.Pr} (h : lg.size ≤ 1048576) : (apd.ans lg l).size ≤ 1048576 := by
  unfold apd.ans
  split
  · exact h
  · rename_i h1
    rw [ByteArray.size_append]
    omega
set_option maxRecDepth 100000 in
set_option maxHeartbeats 8000000 in
theorem store_do (l : List flP.Pr) (ba : Option Addr) (bc : Nat) (h : Pt w ys R ya yc ra rc) (hf : Ft ys R) (hlg : lg.size ≤ 1048576) (hsf : (Lit.int .i64 sf).wf = true) (hT : TB w) (F : bs.Fit l) (hB : Row flP.c 3 w w.heap.size ba l) :
    Calls Tryz.prog 8 #[.agg #[.slice ya ys.length yc, .slice ra R.length rc, .string lg, .int .i64 sf], .slice ba l.length bc] w fun e w' => ((∃ Y Q sa sc ta tc, e = .returned (.tuple #[.agg #[.slice sa (Y : List flP.Pr).length sc, .slice ta (Q : List (List flP.Pr)).length tc, .string (apd.ans lg l), .int .i64 sf], .bool true]) ∧ Ta w' w.heap.size Y Q sa sc ta tc ∧ apd.can lg l = true ∧ okS ys R lg sf = true ∧ okS Y Q (apd.ans lg l) sf = true) ∨ ∃ sa sc ta tc, e = .returned (.tuple #[.agg #[.slice sa ys.length sc, .slice ta R.length tc, .string lg, .int .i64 sf], .bool false]) ∧ Ta w' w.heap.size ys R sa sc ta tc) ∧ Below w.heap.size w w' := by
  have hb : Below w.heap.size w ((w.alloc (.cells #[.slice ya ys.length yc, .slice ra R.length rc, .string lg, .int .i64 sf] 32)).alloc (.cells #[.slice none 0 0, .slice none 0 0, .string ⟨#[]⟩, .int .i64 0] 32)) := ((Below.refl _ _).alloc (Nat.le_refl _) _).alloc (by simp) _
  have hA := bold (bnew w #[.slice ya ys.length yc, .slice ra R.length rc, .string lg, .int .i64 sf] 32) (.cells #[.slice none 0 0, .slice none 0 0, .string ⟨#[]⟩, .int .i64 0] 32)
  have hRs := bnew (w.alloc (.cells #[.slice ya ys.length yc, .slice ra R.length rc, .string lg, .int .i64 sf] 32)) #[.slice none 0 0, .slice none 0 0, .string ⟨#[]⟩, .int .i64 0] 32
  rw [World.size_alloc] at hRs
  obtain ⟨W, hW⟩ : ∃ W, ((w.alloc (.cells #[.slice ya ys.length yc, .slice ra R.length rc, .string lg, .int .i64 sf] 32)).alloc (.cells #[.slice none 0 0, .slice none 0 0, .string ⟨#[]⟩, .int .i64 0] 32)) = W := ⟨_, rfl⟩
  rw [hW] at hb hA hRs
  have HS : Hid (Sd w ys R ya yc ra rc lg sf W) := ⟨hb, hA, hRs⟩
  have HPT : Hid (Pt w ys R ya yc ra rc) := h
  have HFT : Hid (Ft ys R) := hf
  have HT : Hid (TB w) := hT
  have HBR : Hid (Row flP.c 3 w w.heap.size ba l) := hB
  have HFL : Hid (bs.Fit l) := F
  have hap := apd.impl_append lg l ba bc W (HT.out.on hb).tab hlg F (hB.inn hb)
  have hAZ := ans_size (l := l) hlg
  obtain ⟨AN, hAN⟩ : ∃ y, apd.ans lg l = y := ⟨_, rfl⟩
  obtain ⟨cn, hcn⟩ : ∃ y, apd.can lg l = y := ⟨_, rfl⟩
  rw [hAN, hcn] at hap ⊢
  rw [hAN] at hAZ
  have c0 : W.cell? ⟨w.heap.size, 0, none⟩ = some (.slice ya ys.length yc) := bcell HS.out.box rfl
  have c1 : W.cell? ⟨w.heap.size, 1, none⟩ = some (.slice ra R.length rc) := bcell HS.out.box rfl
  have c2 : W.cell? ⟨w.heap.size, 2, none⟩ = some (.string lg) := bcell HS.out.box rfl
  have c3 : W.cell? ⟨w.heap.size, 3, none⟩ = some (.int .i64 sf) := bcell HS.out.box rfl
  clear hA hRs h hf hT hB F hb hAN hcn
  go_enter Tryz.func8, Tryz.ntmps8
  go_wp2_with (go_at_call 21; fail)
  clear hW c0 c1 c2 c3
  refine hap.mono ?_
  rintro e w1 ⟨rfl, hb1⟩
  have H1 : Hid (Sd w ys R ya yc ra rc lg sf w1) := HS.out.on hb1
  clear hap hb1 HS
  cases cn with
  | false =>
    have hcp := p_copy (sf := sf) (HPT.out.below H1.out.bel) HFT.out hlg
    have c0 : w1.cell? ⟨w.heap.size, 0, none⟩ = some (.slice ya ys.length yc) := bcell H1.out.box rfl
    have c1 : w1.cell? ⟨w.heap.size, 1, none⟩ = some (.slice ra R.length rc) := bcell H1.out.box rfl
    have c2 : w1.cell? ⟨w.heap.size, 2, none⟩ = some (.string lg) := bcell H1.out.box rfl
    have c3 : w1.cell? ⟨w.heap.size, 3, none⟩ = some (.int .i64 sf) := bcell H1.out.box rfl
    go_wp2_with (go_at_call 20; fail)
    clear c0 c1 c2 c3
    refine hcp.mono ?_
    rintro e wz ⟨sz, cz, tz, dz, rfl, htz, hbz⟩
    have HZ : Hid (Sd w ys R ya yc ra rc lg sf wz) := H1.out.on hbz
    have HTZ : Hid (Ta wz w1.heap.size ys R sz cz tz dz) := htz
    have hsz := H1.out.size
    have r0 : wz.cell? ⟨w.heap.size + 1, 0, none⟩ = some (.slice none 0 0) := bcell HZ.out.res rfl
    have f0 := bfree HZ.out.res 0
    have r1 : wz.cell? ⟨w.heap.size + 1, 1, none⟩ = some (.slice none 0 0) := bcell HZ.out.res rfl
    have f1 := bfree HZ.out.res 1
    have r2 : wz.cell? ⟨w.heap.size + 1, 2, none⟩ = some (.string ⟨#[]⟩) := bcell HZ.out.res rfl
    have f2 := bfree HZ.out.res 2
    have r3 : wz.cell? ⟨w.heap.size + 1, 3, none⟩ = some (.int .i64 0) := bcell HZ.out.res rfl
    have f3 := bfree HZ.out.res 3
    clear hcp htz hbz
    go_wp2
    have htn : Tn wz ((((wz.setCell ⟨w.heap.size + 1, 0, none⟩ (.slice sz ys.length cz)).setCell ⟨w.heap.size + 1, 1, none⟩ (.slice tz R.length dz)).setCell ⟨w.heap.size + 1, 2, none⟩ (.string lg)).setCell ⟨w.heap.size + 1, 3, none⟩ (.int .i64 sf)) (fun k => k = w.heap.size + 1) := Tn.set (Tn.set (Tn.set (Tn.set (Tn.refl wz (fun k => k = w.heap.size + 1)) (S := fun k => k = w.heap.size + 1) rfl 0 _) (S := fun k => k = w.heap.size + 1) rfl 1 _) (S := fun k => k = w.heap.size + 1) rfl 2 _) (S := fun k => k = w.heap.size + 1) rfl 3 _
    exact bodyPost_ret (v := .tuple #[.agg #[.slice sz ys.length cz, .slice tz R.length dz, .string lg, .int .i64 sf], .bool false]) (by simp [results, Tryz.results8, go_sem, r0, r1, r2, r3]) rfl ⟨.inr ⟨sz, cz, tz, dz, rfl, (HTZ.out.turn htn (fun k hk => by omega)).wide (by have := H1.out.bel.size; omega)⟩, ((((HZ.out.bel.setCell (Nat.le_succ _) _).setCell (Nat.le_succ _) _).setCell (Nat.le_succ _) _).setCell (Nat.le_succ _) _)⟩
  | true =>
    have hok := p_ok (lg := lg) (sf := sf) (HPT.out.below H1.out.bel) HFT.out hlg hsf (HT.out.on H1.out.bel)
    obtain ⟨o1, ho1⟩ : ∃ y, okS ys R lg sf = y := ⟨_, rfl⟩
    rw [ho1] at hok
    have HO1 : Hid (okS ys R lg sf = o1) := ho1
    have c0 : w1.cell? ⟨w.heap.size, 0, none⟩ = some (.slice ya ys.length yc) := bcell H1.out.box rfl
    have c1 : w1.cell? ⟨w.heap.size, 1, none⟩ = some (.slice ra R.length rc) := bcell H1.out.box rfl
    have c2 : w1.cell? ⟨w.heap.size, 2, none⟩ = some (.string lg) := bcell H1.out.box rfl
    have c3 : w1.cell? ⟨w.heap.size, 3, none⟩ = some (.int .i64 sf) := bcell H1.out.box rfl
    clear ho1
    go_wp2_with (go_at_call 12; fail)
    clear c0 c1 c2 c3
    refine hok.mono ?_
    rintro e w2 ⟨rfl, hb2⟩
    have H2 : Hid (Sd w ys R ya yc ra rc lg sf w2) := H1.out.on hb2
    clear hok hb2 H1
    cases o1 with
    | false =>
      have hcp := p_copy (sf := sf) (HPT.out.below H2.out.bel) HFT.out hlg
      have c0 : w2.cell? ⟨w.heap.size, 0, none⟩ = some (.slice ya ys.length yc) := bcell H2.out.box rfl
      have c1 : w2.cell? ⟨w.heap.size, 1, none⟩ = some (.slice ra R.length rc) := bcell H2.out.box rfl
      have c2 : w2.cell? ⟨w.heap.size, 2, none⟩ = some (.string lg) := bcell H2.out.box rfl
      have c3 : w2.cell? ⟨w.heap.size, 3, none⟩ = some (.int .i64 sf) := bcell H2.out.box rfl
      go_wp2_with (go_at_call 20; fail)
      clear c0 c1 c2 c3
      refine hcp.mono ?_
      rintro e wz ⟨sz, cz, tz, dz, rfl, htz, hbz⟩
      have HZ : Hid (Sd w ys R ya yc ra rc lg sf wz) := H2.out.on hbz
      have HTZ : Hid (Ta wz w2.heap.size ys R sz cz tz dz) := htz
      have hsz := H2.out.size
      have r0 : wz.cell? ⟨w.heap.size + 1, 0, none⟩ = some (.slice none 0 0) := bcell HZ.out.res rfl
      have f0 := bfree HZ.out.res 0
      have r1 : wz.cell? ⟨w.heap.size + 1, 1, none⟩ = some (.slice none 0 0) := bcell HZ.out.res rfl
      have f1 := bfree HZ.out.res 1
      have r2 : wz.cell? ⟨w.heap.size + 1, 2, none⟩ = some (.string ⟨#[]⟩) := bcell HZ.out.res rfl
      have f2 := bfree HZ.out.res 2
      have r3 : wz.cell? ⟨w.heap.size + 1, 3, none⟩ = some (.int .i64 0) := bcell HZ.out.res rfl
      have f3 := bfree HZ.out.res 3
      clear hcp htz hbz
      go_wp2
      have htn : Tn wz ((((wz.setCell ⟨w.heap.size + 1, 0, none⟩ (.slice sz ys.length cz)).setCell ⟨w.heap.size + 1, 1, none⟩ (.slice tz R.length dz)).setCell ⟨w.heap.size + 1, 2, none⟩ (.string lg)).setCell ⟨w.heap.size + 1, 3, none⟩ (.int .i64 sf)) (fun k => k = w.heap.size + 1) := Tn.set (Tn.set (Tn.set (Tn.set (Tn.refl wz (fun k => k = w.heap.size + 1)) (S := fun k => k = w.heap.size + 1) rfl 0 _) (S := fun k => k = w.heap.size + 1) rfl 1 _) (S := fun k => k = w.heap.size + 1) rfl 2 _) (S := fun k => k = w.heap.size + 1) rfl 3 _
      exact bodyPost_ret (v := .tuple #[.agg #[.slice sz ys.length cz, .slice tz R.length dz, .string lg, .int .i64 sf], .bool false]) (by simp [results, Tryz.results8, go_sem, r0, r1, r2, r3]) rfl ⟨.inr ⟨sz, cz, tz, dz, rfl, (HTZ.out.turn htn (fun k hk => by omega)).wide (by have := H2.out.bel.size; omega)⟩, ((((HZ.out.bel.setCell (Nat.le_succ _) _).setCell (Nat.le_succ _) _).setCell (Nat.le_succ _) _).setCell (Nat.le_succ _) _)⟩
    | true =>
      have hwb := with_batch l ba bc (HPT.out.below H2.out.bel) HFT.out HFL.out.ll HFL.out.lo (HBR.out.inn H2.out.bel)
      have c0 : w2.cell? ⟨w.heap.size, 0, none⟩ = some (.slice ya ys.length yc) := bcell H2.out.box rfl
      have c1 : w2.cell? ⟨w.heap.size, 1, none⟩ = some (.slice ra R.length rc) := bcell H2.out.box rfl
      have c2 : w2.cell? ⟨w.heap.size, 2, none⟩ = some (.string lg) := bcell H2.out.box rfl
      have c3 : w2.cell? ⟨w.heap.size, 3, none⟩ = some (.int .i64 sf) := bcell H2.out.box rfl
      go_wp2_with (go_at_call 22; fail)
      clear c0 c1 c2 c3
      refine hwb.mono ?_
      rintro e w3 ⟨⟨Y, sa, sc, ta, tc, rfl, hta, hfy⟩ | rfl, hb3⟩
      · have H3a : Hid (Sd w ys R ya yc ra rc lg sf (w3.alloc (.cells #[.slice sa Y.length sc, .slice ta R.length tc] 30))) := (H2.out.on hb3).on ((Below.refl _ _).alloc (Nat.le_refl _) _)
        have HT3 : Hid (Ta (w3.alloc (.cells #[.slice sa Y.length sc, .slice ta R.length tc] 30)) w2.heap.size Y R sa sc ta tc) := hta.on ((Below.refl _ _).alloc (Nat.le_refl _) _)
        have hn3 := bnew w3 #[.slice sa Y.length sc, .slice ta R.length tc] 30
        have HFY : Hid (Ft Y R) := hfy
        have hs2 := H2.out.size
        obtain ⟨X3, hX3⟩ : ∃ y, (w3.alloc (.cells #[.slice sa Y.length sc, .slice ta R.length tc] 30)) = y := ⟨_, rfl⟩
        rw [hX3] at H3a HT3 hn3
        have t0 : X3.cell? ⟨w3.heap.size, 0, none⟩ = some (.slice sa Y.length sc) := bcell hn3 rfl
        have t1 : X3.cell? ⟨w3.heap.size, 1, none⟩ = some (.slice ta R.length tc) := bcell hn3 rfl
        clear hwb hta hfy hb3 hn3
        have d0 : X3.cell? ⟨w.heap.size, 0, none⟩ = some (.slice ya ys.length yc) := bcell H3a.out.box rfl
        have d1 : X3.cell? ⟨w.heap.size, 1, none⟩ = some (.slice ra R.length rc) := bcell H3a.out.box rfl
        have d2 : X3.cell? ⟨w.heap.size, 2, none⟩ = some (.string lg) := bcell H3a.out.box rfl
        have d3 : X3.cell? ⟨w.heap.size, 3, none⟩ = some (.int .i64 sf) := bcell H3a.out.box rfl
        have hal : Below X3.heap.size X3 (X3.alloc (.cells #[.slice sa Y.length sc, .slice ta R.length tc, .string AN, .int .i64 sf] 32)) := (Below.refl _ _).alloc (Nat.le_refl _) _
        have hnx := bnew X3 #[.slice sa Y.length sc, .slice ta R.length tc, .string AN, .int .i64 sf] 32
        obtain ⟨X9, hX9⟩ : ∃ y, (X3.alloc (.cells #[.slice sa Y.length sc, .slice ta R.length tc, .string AN, .int .i64 sf] 32)) = y := ⟨_, rfl⟩
        rw [hX9] at hal hnx
        have H9 : Hid (Sd w ys R ya yc ra rc lg sf X9) := H3a.out.on hal
        have HT9 : Hid (Ta X9 w2.heap.size Y R sa sc ta tc) := HT3.out.on hal
        have HN9 : Hid (X9.heap[X3.heap.size]? = some (.cells #[.slice sa Y.length sc, .slice ta R.length tc, .string AN, .int .i64 sf] 32 (0, 0))) := hnx
        have hok2 := p_ok (lg := AN) (sf := sf) HT9.out.pt HFY.out hAZ hsf (HT.out.on (H9.out.bel))
        obtain ⟨o2, ho2⟩ : ∃ y, okS Y R AN sf = y := ⟨_, rfl⟩
        rw [ho2] at hok2
        have HOK : Hid (okS Y R AN sf = o2) := ho2
        have c0 : X9.cell? ⟨w.heap.size, 0, none⟩ = some (.slice ya ys.length yc) := bcell H9.out.box rfl
        have c1 : X9.cell? ⟨w.heap.size, 1, none⟩ = some (.slice ra R.length rc) := bcell H9.out.box rfl
        have c2 : X9.cell? ⟨w.heap.size, 2, none⟩ = some (.string lg) := bcell H9.out.box rfl
        have c3 : X9.cell? ⟨w.heap.size, 3, none⟩ = some (.int .i64 sf) := bcell H9.out.box rfl
        have n0 : X9.cell? ⟨X3.heap.size, 0, none⟩ = some (.slice sa Y.length sc) := bcell HN9.out rfl
        have n1 : X9.cell? ⟨X3.heap.size, 1, none⟩ = some (.slice ta R.length tc) := bcell HN9.out rfl
        have n2 : X9.cell? ⟨X3.heap.size, 2, none⟩ = some (.string AN) := bcell HN9.out rfl
        have n3 : X9.cell? ⟨X3.heap.size, 3, none⟩ = some (.int .i64 sf) := bcell HN9.out rfl
        have hs9 := H3a.out.size
        clear hal hnx ho2
        go_wp2_with (go_at_call 12; fail)
        try clear hX9
        clear c0 c1 c2 c3 n0 n1 n2 n3
        refine hok2.mono ?_
        rintro e wo ⟨rfl, hbo⟩
        have HO : Hid (Sd w ys R ya yc ra rc lg sf wo) := H9.out.on hbo
        have HTO : Hid (Ta wo w2.heap.size Y R sa sc ta tc) := HT9.out.on hbo
        have HNO : Hid (wo.heap[X3.heap.size]? = some (.cells #[.slice sa Y.length sc, .slice ta R.length tc, .string AN, .int .i64 sf] 32 (0, 0))) := bstay HN9.out hbo (Array.getElem?_eq_some_iff.1 HN9.out).1
        clear hok2 hbo
        cases o2 with
        | false =>
          have hcp := p_copy (sf := sf) (HPT.out.below HO.out.bel) HFT.out hlg
          have c0 : wo.cell? ⟨w.heap.size, 0, none⟩ = some (.slice ya ys.length yc) := bcell HO.out.box rfl
          have c1 : wo.cell? ⟨w.heap.size, 1, none⟩ = some (.slice ra R.length rc) := bcell HO.out.box rfl
          have c2 : wo.cell? ⟨w.heap.size, 2, none⟩ = some (.string lg) := bcell HO.out.box rfl
          have c3 : wo.cell? ⟨w.heap.size, 3, none⟩ = some (.int .i64 sf) := bcell HO.out.box rfl
          go_wp2_with (go_at_call 20; fail)
          clear c0 c1 c2 c3
          refine hcp.mono ?_
          rintro e wz ⟨sz, cz, tz, dz, rfl, htz, hbz⟩
          have HZ : Hid (Sd w ys R ya yc ra rc lg sf wz) := HO.out.on hbz
          have HTZ : Hid (Ta wz wo.heap.size ys R sz cz tz dz) := htz
          have hsz := HO.out.size
          have r0 : wz.cell? ⟨w.heap.size + 1, 0, none⟩ = some (.slice none 0 0) := bcell HZ.out.res rfl
          have f0 := bfree HZ.out.res 0
          have r1 : wz.cell? ⟨w.heap.size + 1, 1, none⟩ = some (.slice none 0 0) := bcell HZ.out.res rfl
          have f1 := bfree HZ.out.res 1
          have r2 : wz.cell? ⟨w.heap.size + 1, 2, none⟩ = some (.string ⟨#[]⟩) := bcell HZ.out.res rfl
          have f2 := bfree HZ.out.res 2
          have r3 : wz.cell? ⟨w.heap.size + 1, 3, none⟩ = some (.int .i64 0) := bcell HZ.out.res rfl
          have f3 := bfree HZ.out.res 3
          clear hcp htz hbz
          go_wp2
          have htn : Tn wz ((((wz.setCell ⟨w.heap.size + 1, 0, none⟩ (.slice sz ys.length cz)).setCell ⟨w.heap.size + 1, 1, none⟩ (.slice tz R.length dz)).setCell ⟨w.heap.size + 1, 2, none⟩ (.string lg)).setCell ⟨w.heap.size + 1, 3, none⟩ (.int .i64 sf)) (fun k => k = w.heap.size + 1) := Tn.set (Tn.set (Tn.set (Tn.set (Tn.refl wz (fun k => k = w.heap.size + 1)) (S := fun k => k = w.heap.size + 1) rfl 0 _) (S := fun k => k = w.heap.size + 1) rfl 1 _) (S := fun k => k = w.heap.size + 1) rfl 2 _) (S := fun k => k = w.heap.size + 1) rfl 3 _
          exact bodyPost_ret (v := .tuple #[.agg #[.slice sz ys.length cz, .slice tz R.length dz, .string lg, .int .i64 sf], .bool false]) (by simp [results, Tryz.results8, go_sem, r0, r1, r2, r3]) rfl ⟨.inr ⟨sz, cz, tz, dz, rfl, (HTZ.out.turn htn (fun k hk => by omega)).wide (by have := HO.out.bel.size; omega)⟩, ((((HZ.out.bel.setCell (Nat.le_succ _) _).setCell (Nat.le_succ _) _).setCell (Nat.le_succ _) _).setCell (Nat.le_succ _) _)⟩
        | true =>
          have HOK2 : Hid (okS Y R AN sf = true) := HOK.out
          have n0 : wo.cell? ⟨X3.heap.size, 0, none⟩ = some (.slice sa Y.length sc) := bcell HNO.out rfl
          have n1 : wo.cell? ⟨X3.heap.size, 1, none⟩ = some (.slice ta R.length tc) := bcell HNO.out rfl
          have n2 : wo.cell? ⟨X3.heap.size, 2, none⟩ = some (.string AN) := bcell HNO.out rfl
          have n3 : wo.cell? ⟨X3.heap.size, 3, none⟩ = some (.int .i64 sf) := bcell HNO.out rfl
          have r0 : wo.cell? ⟨w.heap.size + 1, 0, none⟩ = some (.slice none 0 0) := bcell HO.out.res rfl
          have f0 := bfree HO.out.res 0
          have r1 : wo.cell? ⟨w.heap.size + 1, 1, none⟩ = some (.slice none 0 0) := bcell HO.out.res rfl
          have f1 := bfree HO.out.res 1
          have r2 : wo.cell? ⟨w.heap.size + 1, 2, none⟩ = some (.string ⟨#[]⟩) := bcell HO.out.res rfl
          have f2 := bfree HO.out.res 2
          have r3 : wo.cell? ⟨w.heap.size + 1, 3, none⟩ = some (.int .i64 0) := bcell HO.out.res rfl
          have f3 := bfree HO.out.res 3
          go_wp2
          have htn : Tn wo ((((wo.setCell ⟨w.heap.size + 1, 0, none⟩ (.slice sa Y.length sc)).setCell ⟨w.heap.size + 1, 1, none⟩ (.slice ta R.length tc)).setCell ⟨w.heap.size + 1, 2, none⟩ (.string AN)).setCell ⟨w.heap.size + 1, 3, none⟩ (.int .i64 sf)) (fun k => k = w.heap.size + 1) := Tn.set (Tn.set (Tn.set (Tn.set (Tn.refl wo (fun k => k = w.heap.size + 1)) (S := fun k => k = w.heap.size + 1) rfl 0 _) (S := fun k => k = w.heap.size + 1) rfl 1 _) (S := fun k => k = w.heap.size + 1) rfl 2 _) (S := fun k => k = w.heap.size + 1) rfl 3 _
          exact bodyPost_ret (v := .tuple #[.agg #[.slice sa Y.length sc, .slice ta R.length tc, .string AN, .int .i64 sf], .bool true]) (by simp [results, Tryz.results8, go_sem, r0, r1, r2, r3]) rfl ⟨.inl ⟨Y, R, sa, sc, ta, tc, rfl, (HTO.out.turn htn (fun k hk => by omega)).wide (by omega), HO1.out, HOK2.out⟩, ((((HO.out.bel.setCell (Nat.le_succ _) _).setCell (Nat.le_succ _) _).setCell (Nat.le_succ _) _).setCell (Nat.le_succ _) _)⟩
      · have H0 : Hid (Sd w ys R ya yc ra rc lg sf (w3.alloc (.cells #[.slice none 0 0, .slice none 0 0] 30))) := (H2.out.on hb3).on ((Below.refl _ _).alloc (Nat.le_refl _) _)
        have hn0 := bnew w3 #[.slice none 0 0, .slice none 0 0] 30
        have hs2 := H2.out.size
        have hs3 := hb3.size
        obtain ⟨X0, hX0⟩ : ∃ y, (w3.alloc (.cells #[.slice none 0 0, .slice none 0 0] 30)) = y := ⟨_, rfl⟩
        rw [hX0] at H0 hn0
        have z0 : X0.cell? ⟨w3.heap.size, 0, none⟩ = some (.slice none 0 0) := bcell hn0 rfl
        have z1 : X0.cell? ⟨w3.heap.size, 1, none⟩ = some (.slice none 0 0) := bcell hn0 rfl
        have g0 := bfree hn0 0
        have g1 := bfree hn0 1
        have H3a : Hid (Sd w ys R ya yc ra rc lg sf ((X0.setCell ⟨w3.heap.size, 0, none⟩ (.slice none 0 0)).setCell ⟨w3.heap.size, 1, none⟩ (.slice none 0 0))) :=
          ⟨(H0.out.bel.setCell (show w.heap.size ≤ w3.heap.size by omega) _).setCell (show w.heap.size ≤ w3.heap.size by omega) _, boff (boff H0.out.box _ _ _ (by omega)) _ _ _ (by omega), boff (boff H0.out.res _ _ _ (by omega)) _ _ _ (by omega)⟩
        have hn3 := bset (bset hn0 0 (.slice none 0 0)) 1 (.slice none 0 0)
        obtain ⟨X3, hX3⟩ : ∃ y, ((X0.setCell ⟨w3.heap.size, 0, none⟩ (.slice none 0 0)).setCell ⟨w3.heap.size, 1, none⟩ (.slice none 0 0)) = y := ⟨_, rfl⟩
        rw [hX3] at H3a hn3
        have HN3 : Hid (X3.heap[w3.heap.size]? = some (.cells #[.slice none 0 0, .slice none 0 0] 30 (0, 0))) := hn3
        have hl3 := (Array.getElem?_eq_some_iff.1 hn3).1
        have hal := p_all (HPT.out.below H3a.out.bel) HFT.out lg sf
        have HAF : Hid ((all0 ys R).length ≤ 6000 → Ft (all0 ys R) []) := all_ft (okS_okB HO1.out)
        obtain ⟨AL, hAL⟩ : ∃ y, all0 ys R = y := ⟨_, rfl⟩
        rw [hAL] at hal HAF
        have c0 : X3.cell? ⟨w.heap.size, 0, none⟩ = some (.slice ya ys.length yc) := bcell H3a.out.box rfl
        have c1 : X3.cell? ⟨w.heap.size, 1, none⟩ = some (.slice ra R.length rc) := bcell H3a.out.box rfl
        have c2 : X3.cell? ⟨w.heap.size, 2, none⟩ = some (.string lg) := bcell H3a.out.box rfl
        have c3 : X3.cell? ⟨w.heap.size, 3, none⟩ = some (.int .i64 sf) := bcell H3a.out.box rfl
        clear hwb hb3 hn3 hn0 H0 hAL
        go_wp2_with (go_at_call 6; fail)
        clear hX3 hX0 z0 z1 g0 g1 c0 c1 c2 c3
        refine hal.mono ?_
        rintro e w4 ⟨a4, c4, rfl, hl4, hc4, hr4, hb4⟩
        have H4 : Hid (Sd w ys R ya yc ra rc lg sf w4) := H3a.out.on hb4
        have HN4 : Hid (w4.heap[w3.heap.size]? = some (.cells #[.slice none 0 0, .slice none 0 0] 30 (0, 0))) := bstay HN3.out hb4 hl3
        have hl4' := (Array.getElem?_eq_some_iff.1 HN4.out).1
        have hwb := with_batch l ba bc (nil_pt hr4 hc4) (HAF.out hl4) HFL.out.ll HFL.out.lo (HBR.out.inn H4.out.bel)
        simp only [List.length_nil] at hwb
        clear hal hr4 hb4 H3a HN3 HAF
        go_wp2_with (go_at_call 22; fail)
        refine hwb.mono ?_
        rintro e w5 ⟨⟨Y, sa, sc, ta, tc, rfl, hta, hfy⟩ | rfl, hb5⟩
        · have H5 : Hid (Sd w ys R ya yc ra rc lg sf w5) := H4.out.on hb5
          have hn5 := bstay HN4.out hb5 hl4'
          have hs4 := H4.out.size
          have htn : Tn w5 ((w5.setCell ⟨w3.heap.size, 0, none⟩ (.slice sa Y.length sc)).setCell ⟨w3.heap.size, 1, none⟩ (.slice ta 0 tc)) (fun k => k = w3.heap.size) := Tn.set (Tn.set (Tn.refl w5 (fun k => k = w3.heap.size)) (S := fun k => k = w3.heap.size) rfl 0 _) rfl 1 _
          have H3a : Hid (Sd w ys R ya yc ra rc lg sf ((w5.setCell ⟨w3.heap.size, 0, none⟩ (.slice sa Y.length sc)).setCell ⟨w3.heap.size, 1, none⟩ (.slice ta 0 tc))) :=
            ⟨(H5.out.bel.setCell (show w.heap.size ≤ w3.heap.size by omega) _).setCell (show w.heap.size ≤ w3.heap.size by omega) _, boff (boff H5.out.box _ _ _ (by omega)) _ _ _ (by omega), boff (boff H5.out.res _ _ _ (by omega)) _ _ _ (by omega)⟩
          have HT3 : Hid (Ta ((w5.setCell ⟨w3.heap.size, 0, none⟩ (.slice sa Y.length sc)).setCell ⟨w3.heap.size, 1, none⟩ (.slice ta 0 tc)) w4.heap.size Y [] sa sc ta tc) := hta.turn htn (fun k hk => by omega)
          have hn6 := bset (bset hn5 0 (.slice sa Y.length sc)) 1 (.slice ta 0 tc)
          have HFY : Hid (Ft Y []) := hfy
          have x0 := bfree hn5 0
          have x1 := bfree hn5 1
          have y0 : w5.cell? ⟨w3.heap.size, 0, none⟩ = some (.slice none 0 0) := bcell hn5 rfl
          have y1 : w5.cell? ⟨w3.heap.size, 1, none⟩ = some (.slice none 0 0) := bcell hn5 rfl
          obtain ⟨X3, hX3⟩ : ∃ y, ((w5.setCell ⟨w3.heap.size, 0, none⟩ (.slice sa Y.length sc)).setCell ⟨w3.heap.size, 1, none⟩ (.slice ta 0 tc)) = y := ⟨_, rfl⟩
          rw [hX3] at H3a HT3 hn6
          have t0 : X3.cell? ⟨w3.heap.size, 0, none⟩ = some (.slice sa Y.length sc) := bcell hn6 rfl
          have t1 : X3.cell? ⟨w3.heap.size, 1, none⟩ = some (.slice ta 0 tc) := bcell hn6 rfl
          clear hwb hta hfy hb5 hn5 hn6 H4 H5 HN4 htn
          have d0 : X3.cell? ⟨w.heap.size, 0, none⟩ = some (.slice ya ys.length yc) := bcell H3a.out.box rfl
          have d1 : X3.cell? ⟨w.heap.size, 1, none⟩ = some (.slice ra R.length rc) := bcell H3a.out.box rfl
          have d2 : X3.cell? ⟨w.heap.size, 2, none⟩ = some (.string lg) := bcell H3a.out.box rfl
          have d3 : X3.cell? ⟨w.heap.size, 3, none⟩ = some (.int .i64 sf) := bcell H3a.out.box rfl
          have hal : Below X3.heap.size X3 (X3.alloc (.cells #[.slice sa Y.length sc, .slice ta 0 tc, .string AN, .int .i64 sf] 32)) := (Below.refl _ _).alloc (Nat.le_refl _) _
          have hnx := bnew X3 #[.slice sa Y.length sc, .slice ta 0 tc, .string AN, .int .i64 sf] 32
          obtain ⟨X9, hX9⟩ : ∃ y, (X3.alloc (.cells #[.slice sa Y.length sc, .slice ta 0 tc, .string AN, .int .i64 sf] 32)) = y := ⟨_, rfl⟩
          rw [hX9] at hal hnx
          have H9 : Hid (Sd w ys R ya yc ra rc lg sf X9) := H3a.out.on hal
          have HT9 : Hid (Ta X9 w4.heap.size Y [] sa sc ta tc) := HT3.out.on hal
          have HN9 : Hid (X9.heap[X3.heap.size]? = some (.cells #[.slice sa Y.length sc, .slice ta 0 tc, .string AN, .int .i64 sf] 32 (0, 0))) := hnx
          have hok2 := p_ok (lg := AN) (sf := sf) HT9.out.pt HFY.out hAZ hsf (HT.out.on (H9.out.bel))
          obtain ⟨o2, ho2⟩ : ∃ y, okS Y [] AN sf = y := ⟨_, rfl⟩
          rw [ho2] at hok2
          have HOK : Hid (okS Y [] AN sf = o2) := ho2
          have c0 : X9.cell? ⟨w.heap.size, 0, none⟩ = some (.slice ya ys.length yc) := bcell H9.out.box rfl
          have c1 : X9.cell? ⟨w.heap.size, 1, none⟩ = some (.slice ra R.length rc) := bcell H9.out.box rfl
          have c2 : X9.cell? ⟨w.heap.size, 2, none⟩ = some (.string lg) := bcell H9.out.box rfl
          have c3 : X9.cell? ⟨w.heap.size, 3, none⟩ = some (.int .i64 sf) := bcell H9.out.box rfl
          have n0 : X9.cell? ⟨X3.heap.size, 0, none⟩ = some (.slice sa Y.length sc) := bcell HN9.out rfl
          have n1 : X9.cell? ⟨X3.heap.size, 1, none⟩ = some (.slice ta 0 tc) := bcell HN9.out rfl
          have n2 : X9.cell? ⟨X3.heap.size, 2, none⟩ = some (.string AN) := bcell HN9.out rfl
          have n3 : X9.cell? ⟨X3.heap.size, 3, none⟩ = some (.int .i64 sf) := bcell HN9.out rfl
          have hs9 := H3a.out.size
          clear hal hnx ho2
          go_wp2_with (go_at_call 12; fail)
          try clear hX9
          clear c0 c1 c2 c3 n0 n1 n2 n3
          refine hok2.mono ?_
          rintro e wo ⟨rfl, hbo⟩
          have HO : Hid (Sd w ys R ya yc ra rc lg sf wo) := H9.out.on hbo
          have HTO : Hid (Ta wo w4.heap.size Y [] sa sc ta tc) := HT9.out.on hbo
          have HNO : Hid (wo.heap[X3.heap.size]? = some (.cells #[.slice sa Y.length sc, .slice ta 0 tc, .string AN, .int .i64 sf] 32 (0, 0))) := bstay HN9.out hbo (Array.getElem?_eq_some_iff.1 HN9.out).1
          clear hok2 hbo
          cases o2 with
          | false =>
            have hcp := p_copy (sf := sf) (HPT.out.below HO.out.bel) HFT.out hlg
            have c0 : wo.cell? ⟨w.heap.size, 0, none⟩ = some (.slice ya ys.length yc) := bcell HO.out.box rfl
            have c1 : wo.cell? ⟨w.heap.size, 1, none⟩ = some (.slice ra R.length rc) := bcell HO.out.box rfl
            have c2 : wo.cell? ⟨w.heap.size, 2, none⟩ = some (.string lg) := bcell HO.out.box rfl
            have c3 : wo.cell? ⟨w.heap.size, 3, none⟩ = some (.int .i64 sf) := bcell HO.out.box rfl
            go_wp2_with (go_at_call 20; fail)
            clear c0 c1 c2 c3
            refine hcp.mono ?_
            rintro e wz ⟨sz, cz, tz, dz, rfl, htz, hbz⟩
            have HZ : Hid (Sd w ys R ya yc ra rc lg sf wz) := HO.out.on hbz
            have HTZ : Hid (Ta wz wo.heap.size ys R sz cz tz dz) := htz
            have hsz := HO.out.size
            have r0 : wz.cell? ⟨w.heap.size + 1, 0, none⟩ = some (.slice none 0 0) := bcell HZ.out.res rfl
            have f0 := bfree HZ.out.res 0
            have r1 : wz.cell? ⟨w.heap.size + 1, 1, none⟩ = some (.slice none 0 0) := bcell HZ.out.res rfl
            have f1 := bfree HZ.out.res 1
            have r2 : wz.cell? ⟨w.heap.size + 1, 2, none⟩ = some (.string ⟨#[]⟩) := bcell HZ.out.res rfl
            have f2 := bfree HZ.out.res 2
            have r3 : wz.cell? ⟨w.heap.size + 1, 3, none⟩ = some (.int .i64 0) := bcell HZ.out.res rfl
            have f3 := bfree HZ.out.res 3
            clear hcp htz hbz
            go_wp2
            have htn : Tn wz ((((wz.setCell ⟨w.heap.size + 1, 0, none⟩ (.slice sz ys.length cz)).setCell ⟨w.heap.size + 1, 1, none⟩ (.slice tz R.length dz)).setCell ⟨w.heap.size + 1, 2, none⟩ (.string lg)).setCell ⟨w.heap.size + 1, 3, none⟩ (.int .i64 sf)) (fun k => k = w.heap.size + 1) := Tn.set (Tn.set (Tn.set (Tn.set (Tn.refl wz (fun k => k = w.heap.size + 1)) (S := fun k => k = w.heap.size + 1) rfl 0 _) (S := fun k => k = w.heap.size + 1) rfl 1 _) (S := fun k => k = w.heap.size + 1) rfl 2 _) (S := fun k => k = w.heap.size + 1) rfl 3 _
            exact bodyPost_ret (v := .tuple #[.agg #[.slice sz ys.length cz, .slice tz R.length dz, .string lg, .int .i64 sf], .bool false]) (by simp [results, Tryz.results8, go_sem, r0, r1, r2, r3]) rfl ⟨.inr ⟨sz, cz, tz, dz, rfl, (HTZ.out.turn htn (fun k hk => by omega)).wide (by have := HO.out.bel.size; omega)⟩, ((((HZ.out.bel.setCell (Nat.le_succ _) _).setCell (Nat.le_succ _) _).setCell (Nat.le_succ _) _).setCell (Nat.le_succ _) _)⟩
          | true =>
            have HOK2 : Hid (okS Y [] AN sf = true) := HOK.out
            have n0 : wo.cell? ⟨X3.heap.size, 0, none⟩ = some (.slice sa Y.length sc) := bcell HNO.out rfl
            have n1 : wo.cell? ⟨X3.heap.size, 1, none⟩ = some (.slice ta 0 tc) := bcell HNO.out rfl
            have n2 : wo.cell? ⟨X3.heap.size, 2, none⟩ = some (.string AN) := bcell HNO.out rfl
            have n3 : wo.cell? ⟨X3.heap.size, 3, none⟩ = some (.int .i64 sf) := bcell HNO.out rfl
            have r0 : wo.cell? ⟨w.heap.size + 1, 0, none⟩ = some (.slice none 0 0) := bcell HO.out.res rfl
            have f0 := bfree HO.out.res 0
            have r1 : wo.cell? ⟨w.heap.size + 1, 1, none⟩ = some (.slice none 0 0) := bcell HO.out.res rfl
            have f1 := bfree HO.out.res 1
            have r2 : wo.cell? ⟨w.heap.size + 1, 2, none⟩ = some (.string ⟨#[]⟩) := bcell HO.out.res rfl
            have f2 := bfree HO.out.res 2
            have r3 : wo.cell? ⟨w.heap.size + 1, 3, none⟩ = some (.int .i64 0) := bcell HO.out.res rfl
            have f3 := bfree HO.out.res 3
            go_wp2
            have htn : Tn wo ((((wo.setCell ⟨w.heap.size + 1, 0, none⟩ (.slice sa Y.length sc)).setCell ⟨w.heap.size + 1, 1, none⟩ (.slice ta 0 tc)).setCell ⟨w.heap.size + 1, 2, none⟩ (.string AN)).setCell ⟨w.heap.size + 1, 3, none⟩ (.int .i64 sf)) (fun k => k = w.heap.size + 1) := Tn.set (Tn.set (Tn.set (Tn.set (Tn.refl wo (fun k => k = w.heap.size + 1)) (S := fun k => k = w.heap.size + 1) rfl 0 _) (S := fun k => k = w.heap.size + 1) rfl 1 _) (S := fun k => k = w.heap.size + 1) rfl 2 _) (S := fun k => k = w.heap.size + 1) rfl 3 _
            exact bodyPost_ret (v := .tuple #[.agg #[.slice sa Y.length sc, .slice ta 0 tc, .string AN, .int .i64 sf], .bool true]) (by simp [results, Tryz.results8, go_sem, r0, r1, r2, r3]) rfl ⟨.inl ⟨Y, [], sa, sc, ta, tc, rfl, (HTO.out.turn htn (fun k hk => by omega)).wide (by omega), HO1.out, HOK2.out⟩, ((((HO.out.bel.setCell (Nat.le_succ _) _).setCell (Nat.le_succ _) _).setCell (Nat.le_succ _) _).setCell (Nat.le_succ _) _)⟩
        · have H5 : Hid (Sd w ys R ya yc ra rc lg sf w5) := H4.out.on hb5
          have hn5 := bstay HN4.out hb5 hl4'
          have hs4 := H4.out.size
          have x0 := bfree hn5 0
          have x1 := bfree hn5 1
          have y0 : w5.cell? ⟨w3.heap.size, 0, none⟩ = some (.slice none 0 0) := bcell hn5 rfl
          have y1 : w5.cell? ⟨w3.heap.size, 1, none⟩ = some (.slice none 0 0) := bcell hn5 rfl
          have H3a : Hid (Sd w ys R ya yc ra rc lg sf ((w5.setCell ⟨w3.heap.size, 0, none⟩ (.slice none 0 0)).setCell ⟨w3.heap.size, 1, none⟩ (.slice none 0 0))) :=
            ⟨(H5.out.bel.setCell (show w.heap.size ≤ w3.heap.size by omega) _).setCell (show w.heap.size ≤ w3.heap.size by omega) _, boff (boff H5.out.box _ _ _ (by omega)) _ _ _ (by omega), boff (boff H5.out.res _ _ _ (by omega)) _ _ _ (by omega)⟩
          have hn6 := bset (bset hn5 0 (.slice none 0 0)) 1 (.slice none 0 0)
          obtain ⟨X3, hX3⟩ : ∃ y, ((w5.setCell ⟨w3.heap.size, 0, none⟩ (.slice none 0 0)).setCell ⟨w3.heap.size, 1, none⟩ (.slice none 0 0)) = y := ⟨_, rfl⟩
          rw [hX3] at H3a hn6
          have t0 : X3.cell? ⟨w3.heap.size, 0, none⟩ = some (.slice none 0 0) := bcell hn6 rfl
          have t1 : X3.cell? ⟨w3.heap.size, 1, none⟩ = some (.slice none 0 0) := bcell hn6 rfl
          have d0 : X3.cell? ⟨w.heap.size, 0, none⟩ = some (.slice ya ys.length yc) := bcell H3a.out.box rfl
          have d1 : X3.cell? ⟨w.heap.size, 1, none⟩ = some (.slice ra R.length rc) := bcell H3a.out.box rfl
          have d2 : X3.cell? ⟨w.heap.size, 2, none⟩ = some (.string lg) := bcell H3a.out.box rfl
          have d3 : X3.cell? ⟨w.heap.size, 3, none⟩ = some (.int .i64 sf) := bcell H3a.out.box rfl
          have H9 : Hid (Sd w ys R ya yc ra rc lg sf (X3.alloc (.cells #[.slice none 0 0, .slice none 0 0, .string AN, .int .i64 sf] 32))) := H3a.out.on ((Below.refl _ _).alloc (Nat.le_refl _) _)
          obtain ⟨X9, hX9⟩ : ∃ y, (X3.alloc (.cells #[.slice none 0 0, .slice none 0 0, .string AN, .int .i64 sf] 32)) = y := ⟨_, rfl⟩
          rw [hX9] at H9
          clear hwb hb5 hn5 hn6 H4 H5 HN4
          have hcp := p_copy (sf := sf) (HPT.out.below H9.out.bel) HFT.out hlg
          have c0 : X9.cell? ⟨w.heap.size, 0, none⟩ = some (.slice ya ys.length yc) := bcell H9.out.box rfl
          have c1 : X9.cell? ⟨w.heap.size, 1, none⟩ = some (.slice ra R.length rc) := bcell H9.out.box rfl
          have c2 : X9.cell? ⟨w.heap.size, 2, none⟩ = some (.string lg) := bcell H9.out.box rfl
          have c3 : X9.cell? ⟨w.heap.size, 3, none⟩ = some (.int .i64 sf) := bcell H9.out.box rfl
          go_wp2_with (go_at_call 20; fail)
          clear c0 c1 c2 c3
          refine hcp.mono ?_
          rintro e wz ⟨sz, cz, tz, dz, rfl, htz, hbz⟩
          have HZ : Hid (Sd w ys R ya yc ra rc lg sf wz) := H9.out.on hbz
          have HTZ : Hid (Ta wz X9.heap.size ys R sz cz tz dz) := htz
          have hsz := H9.out.size
          have r0 : wz.cell? ⟨w.heap.size + 1, 0, none⟩ = some (.slice none 0 0) := bcell HZ.out.res rfl
          have f0 := bfree HZ.out.res 0
          have r1 : wz.cell? ⟨w.heap.size + 1, 1, none⟩ = some (.slice none 0 0) := bcell HZ.out.res rfl
          have f1 := bfree HZ.out.res 1
          have r2 : wz.cell? ⟨w.heap.size + 1, 2, none⟩ = some (.string ⟨#[]⟩) := bcell HZ.out.res rfl
          have f2 := bfree HZ.out.res 2
          have r3 : wz.cell? ⟨w.heap.size + 1, 3, none⟩ = some (.int .i64 0) := bcell HZ.out.res rfl
          have f3 := bfree HZ.out.res 3
          clear hcp htz hbz
          go_wp2
          have htn : Tn wz ((((wz.setCell ⟨w.heap.size + 1, 0, none⟩ (.slice sz ys.length cz)).setCell ⟨w.heap.size + 1, 1, none⟩ (.slice tz R.length dz)).setCell ⟨w.heap.size + 1, 2, none⟩ (.string lg)).setCell ⟨w.heap.size + 1, 3, none⟩ (.int .i64 sf)) (fun k => k = w.heap.size + 1) := Tn.set (Tn.set (Tn.set (Tn.set (Tn.refl wz (fun k => k = w.heap.size + 1)) (S := fun k => k = w.heap.size + 1) rfl 0 _) (S := fun k => k = w.heap.size + 1) rfl 1 _) (S := fun k => k = w.heap.size + 1) rfl 2 _) (S := fun k => k = w.heap.size + 1) rfl 3 _
          exact bodyPost_ret (v := .tuple #[.agg #[.slice sz ys.length cz, .slice tz R.length dz, .string lg, .int .i64 sf], .bool false]) (by simp [results, Tryz.results8, go_sem, r0, r1, r2, r3]) rfl ⟨.inr ⟨sz, cz, tz, dz, rfl, (HTZ.out.turn htn (fun k hk => by omega)).wide (by have := H9.out.bel.size; omega)⟩, ((((HZ.out.bel.setCell (Nat.le_succ _) _).setCell (Nat.le_succ _) _).setCell (Nat.le_succ _) _).setCell (Nat.le_succ _) _)⟩
end
end Go.Proofs.YtoemkbooomgieaaGreatDoor.sdd

/- A number comes back from its bytes wherever they stand, and no other bytes are its. -/
namespace Go.Proofs.YtoemkbooomgieaaGreatDoor.np
open Go.Proofs.YtoemkbooomgieaaGreatDoor.sz

/-- the number of k bytes from place i on, as a natural number -/
def G (s : ByteArray) (i k : Nat) : Nat := (gi.gi s i k).toNat
theorem G_eq (s : ByteArray) (i k : Nat) : gi.gi s i k = (G s i k : Int) := by
  have := (gi.gi_bound s i k).1
  unfold G
  omega
theorem G_succ (s : ByteArray) (i k : Nat) : G s i (k + 1) = 256 * G s i k + gi.bt s (i + k) := by
  have h := G_eq s i (k + 1)
  have h2 := G_eq s i k
  simp only [gi.gi] at h
  rw [h2] at h
  omega
theorem G_div (s : ByteArray) (i k : Nat) : ∀ m, G s i (k + m) / 256 ^ m = G s i k
  | 0 => by simp
  | m + 1 => by
    have hb := gi.bt_le s (i + (k + m))
    rw [show k + (m + 1) = (k + m) + 1 by omega, G_succ, Nat.pow_succ, Nat.mul_comm (256 ^ m) 256, ← Nat.div_div_eq_div_mul, show (256 * G s i (k + m) + gi.bt s (i + (k + m))) / 256 = G s i (k + m) by omega]
    exact G_div s i k m
theorem G_byte (s : ByteArray) (i z j : Nat) (h : j < z) : G s i z / 256 ^ (z - 1 - j) % 256 = gi.bt s (i + j) := by
  have h1 := G_div s i (j + 1) (z - 1 - j)
  rw [show j + 1 + (z - 1 - j) = z by omega] at h1
  have hb := gi.bt_le s (i + j)
  rw [h1, G_succ]
  omega

theorem lo_bytes (s : ByteArray) (i z : Nat) (h : i + z ≤ s.size) : strOfNums (pi.lo (G s i z) z) = s.extract i (i + z) := by
  apply ByteArray.ext
  apply Array.toList_inj.1
  rw [strOfNums_data, Lib.extract_data, show i + z - i = z by omega]
  apply List.ext_getElem?
  intro j
  by_cases hj : j < z
  · have h1 : (pi.lo (G s i z) z)[j]? = some ((gi.bt s (i + j) : Nat) : Int) := by
      have h2 := pi.lo_get (G s i z) z j hj
      rw [G_byte s i z j hj] at h2
      have hl : j < (pi.lo (G s i z) z).length := by rw [pi.lo_length]; exact hj
      rw [List.getElem?_eq_getElem hl]
      simp only [List.getD, List.getElem?_eq_getElem hl, Option.getD_some] at h2
      rw [h2]
    have h3 : i + j < s.size := by omega
    rw [List.getElem?_map, h1, List.getElem?_take_of_lt hj, List.getElem?_drop, Lib.data_getElem? s (i + j) h3]
    simp only [Option.map_some, Int.toNat_natCast]
    rw [← gi.bt_eq s (i + j) h3]
    simp
  · rw [List.getElem?_eq_none (by rw [List.length_map, pi.lo_length]; omega), List.getElem?_eq_none (by rw [List.length_take]; omega)]

/-- what is read is put again -/
theorem put_read (s : ByteArray) (i z : Int) (h : gi.okAt s i z = true) : pi.text (gi.num s i z) z = s.extract i.toNat (i.toNat + z.toNat) := by
  have h' := h
  simp only [gi.okAt, Bool.and_eq_true, decide_eq_true_eq] at h'
  have hz := size_of z (by omega)
  have hn : gi.num s i z = gi.gi s i.toNat z.toNat := by simp only [gi.num, h, if_true]
  have hfit : pi.fits (gi.num s i z) z = true := by
    rw [hn]
    have hb := gi.gi_bound s i.toNat z.toNat
    simp only [pi.fits, Bool.and_eq_true, decide_eq_true_eq]
    refine ⟨hb.1, ?_⟩
    rcases hz with rfl | rfl | rfl | rfl
    · have : (1 : Int).toNat = 1 := rfl
      rw [this] at hb ⊢
      simp [mostOf]; omega
    · have : (2 : Int).toNat = 2 := rfl
      rw [this] at hb ⊢
      simp [mostOf]; omega
    · have : (4 : Int).toNat = 4 := rfl
      rw [this] at hb ⊢
      simp [mostOf]; omega
    · have h7 : gi.bt s i.toNat ≤ 127 := by
        have := h'.2
        simp at this
        omega
      have hb7 := gi.gi_bound7 s i.toNat h7 7
      rw [show 7 + 1 = 8 from rfl] at hb7
      have : (8 : Int).toNat = 8 := rfl
      rw [this]
      simp [mostOf]; omega
  simp only [pi.text, hfit, if_true]
  rw [hn]
  exact lo_bytes s i.toNat z.toNat (by omega)

theorem bt_mid (p s q : ByteArray) (j : Nat) (hj : j < s.size) : gi.bt (p ++ s ++ q) (p.size + j) = gi.bt s j := by
  have e1 : (p ++ s ++ q).data.toList[p.size + j]? = s.data.toList[j]? := by
    simp only [ByteArray.data_append, Array.toList_append]
    have hpl : p.data.toList.length = p.size := by simp
    have hsl : s.data.toList.length = s.size := by simp
    rw [List.append_assoc, List.getElem?_append_right (by omega), hpl, show p.size + j - p.size = j by omega, List.getElem?_append_left (by omega)]
  have hs1 : p.size + j < (p ++ s ++ q).size := by simp [ByteArray.size_append]; omega
  rw [Lib.data_getElem? _ _ hs1, Lib.data_getElem? _ _ hj] at e1
  rw [← gi.bt_eq _ _ hs1, ← gi.bt_eq _ _ hj, Option.some.inj e1]

theorem text_fits {n z : Int} (h : pi.fits n z = true) : pi.text n z = strOfNums (pi.lo n.toNat z.toNat) := by simp only [pi.text, h, if_true]
theorem text_size {n z : Int} (h : pi.fits n z = true) : ((pi.text n z).size : Int) = z := by
  rw [text_fits h, strOfNums_size, pi.lo_length]
  simp only [pi.fits, Bool.and_eq_true, decide_eq_true_eq] at h
  have := size_of z (by omega)
  omega

theorem text_bt {n z : Int} (h : pi.fits n z = true) (j : Nat) (hj : j < z.toNat) : gi.bt (pi.text n z) j = n.toNat / 256 ^ (z.toNat - 1 - j) % 256 := by
  have hl : j < (pi.text n z).size := by have := text_size h; omega
  rw [← gi.bt_eq _ _ hl]
  have h1 := Lib.data_getElem? (pi.text n z) j hl
  have h2 : (pi.text n z).data.toList[j]? = some (UInt8.ofNat (n.toNat / 256 ^ (z.toNat - 1 - j) % 256)) := by
    rw [text_fits h, strOfNums_data]
    have h3 := pi.lo_get n.toNat z.toNat j hj
    have hl2 : j < (pi.lo n.toNat z.toNat).length := by rw [pi.lo_length]; exact hj
    simp only [List.getD, List.getElem?_eq_getElem hl2, Option.getD_some] at h3
    rw [List.getElem?_map, List.getElem?_eq_getElem hl2, h3]
    simp only [Option.map_some, Int.toNat_natCast]
  rw [h1] at h2
  rw [Option.some.inj h2, UInt8.toNat_ofNat']
  omega

theorem G_text {n z : Int} (h : pi.fits n z = true) (p q : ByteArray) : ∀ k, k ≤ z.toNat → n.toNat < 256 ^ z.toNat → G (p ++ pi.text n z ++ q) p.size k = n.toNat / 256 ^ (z.toNat - k)
  | 0, _, hn => by
    rw [Nat.sub_zero, Nat.div_eq_of_lt hn]
    rfl
  | k + 1, hk, hn => by
    have ih := G_text h p q k (by omega) hn
    have hsz := text_size h
    rw [G_succ, ih, bt_mid p _ q k (by omega), text_bt h k (by omega)]
    have e : z.toNat - k = (z.toNat - 1 - k) + 1 := by omega
    have e2 : z.toNat - (k + 1) = z.toNat - 1 - k := by omega
    rw [e2, e, Nat.pow_succ, ← Nat.div_div_eq_div_mul]
    omega

/-- what is put is read again, wherever it stands -/
theorem read_put {n z : Int} (h : pi.fits n z = true) (p q : ByteArray) :
    gi.num (p ++ pi.text n z ++ q) p.size z = n ∧ gi.stop (p ++ pi.text n z ++ q) p.size z = p.size + z ∧ gi.okAt (p ++ pi.text n z ++ q) p.size z = true := by
  have hsz := text_size h
  have h' := h
  simp only [pi.fits, Bool.and_eq_true, decide_eq_true_eq] at h'
  have hz := size_of z (by omega)
  have hlt : n.toNat < 256 ^ z.toNat := by
    have hle := h'.2
    rcases hz with rfl | rfl | rfl | rfl <;> simp [mostOf] at hle <;> simp <;> omega
  have hG := G_text h p q z.toNat (Nat.le_refl _) hlt
  rw [Nat.sub_self, Nat.pow_zero, Nat.div_one] at hG
  have hbig : (p ++ pi.text n z ++ q).size = p.size + (pi.text n z).size + q.size := by simp [ByteArray.size_append]
  have hok : gi.okAt (p ++ pi.text n z ++ q) p.size z = true := by
    simp only [gi.okAt, Bool.and_eq_true, decide_eq_true_eq, Bool.not_eq_true', Bool.and_eq_false_iff, decide_eq_false_iff_not]
    refine ⟨⟨⟨by omega, by omega⟩, by omega⟩, ?_⟩
    by_cases h8 : z = 8
    · right
      subst h8
      have e := bt_mid p (pi.text n 8) q 0 (by omega)
      rw [show ((p.size : Int)).toNat = p.size + 0 by omega, e, text_bt h 0 (by decide)]
      have hle := h'.2
      simp [mostOf] at hle
      rw [show (8 : Int).toNat - 1 - 0 = 7 from rfl]
      omega
    · exact .inl h8
  refine ⟨?_, by simp only [gi.stop, hok, if_true], hok⟩
  simp only [gi.num, hok, if_true]
  rw [show ((p.size : Int)).toNat = p.size by omega, G_eq, hG]
  omega

/-- two pieces one behind the other are one -/
theorem extract_join (s : ByteArray) (i j k : Nat) (h1 : i ≤ j) (h2 : j ≤ k) : s.extract i j ++ s.extract j k = s.extract i k := by
  apply ByteArray.ext
  apply Array.toList_inj.1
  rw [ByteArray.data_append, Array.toList_append, Lib.extract_data, Lib.extract_data, Lib.extract_data, show k - i = (j - i) + (k - j) by omega, List.take_add, List.drop_drop, show i + (j - i) = j by omega]
/-- the middle of three pieces -/
theorem extract_mid (p s q : ByteArray) : (p ++ s ++ q).extract p.size (p.size + s.size) = s := by
  apply ByteArray.ext
  apply Array.toList_inj.1
  rw [Lib.extract_data, ByteArray.data_append, Array.toList_append, ByteArray.data_append, Array.toList_append, List.append_assoc, show p.size + s.size - p.size = s.size by omega]
  have hpl : p.data.toList.length = p.size := by simp
  have hsl : s.data.toList.length = s.size := by simp
  rw [List.drop_append_of_le_length (by omega), List.drop_of_length_le (by omega), List.nil_append, List.take_append_of_le_length (by omega), List.take_of_length_le (by omega)]
end Go.Proofs.YtoemkbooomgieaaGreatDoor.np

/- A text comes back from its bytes, short or long, and no other bytes are its; a text with a byte changed has another sum. -/
namespace Go.Proofs.YtoemkbooomgieaaGreatDoor.sp

section
variable {s t : ByteArray} {j : Nat}
end
theorem sum_lt (s : ByteArray) : cs.sum s < 4294967296 := cs.xor_lt (cs.st_lt s _) (by decide)

/-- what is read is put again -/
theorem short_back {u : ByteArray} {i : Int} (h : gs.here u i = true) : 0 ≤ i ∧ gs.behind u i = ((gs.behind u i).toNat : Int) ∧ i.toNat ≤ (gs.behind u i).toNat ∧ (gs.behind u i).toNat ≤ u.size ∧ ps.out (gs.text u i) = u.extract i.toNat (gs.behind u i).toNat := by
  have h' := h
  simp only [gs.here, Bool.and_eq_true, decide_eq_true_eq] at h'
  obtain ⟨⟨hok, hle⟩, hin⟩ := h'
  have hp := gs.parts u i hok
  have hst : gi.stop u i 1 = i + 1 := by simp only [gi.stop, hok, if_true]
  have hok' := hok
  simp only [gi.okAt, Bool.and_eq_true, decide_eq_true_eq] at hok'
  have hpr := np.put_read u i 1 hok
  have e1 : gs.text u i = u.extract (i.toNat + 1) (i.toNat + 1 + (gi.num u i 1).toNat) := by
    simp only [gs.text, h, if_true, hst]
    rw [show (i + 1).toNat = i.toNat + 1 by omega]
  have e2 : gs.behind u i = i + 1 + gi.num u i 1 := by simp only [gs.behind, h, if_true, hst]
  have hsz : (gs.text u i).size = (gi.num u i 1).toNat := by rw [e1, ByteArray.size_extract]; omega
  refine ⟨by omega, by omega, by omega, by omega, ?_⟩
  have e3 : ps.out (gs.text u i) = pi.text ((gs.text u i).size : Int) 1 ++ gs.text u i := by
    unfold ps.out
    rw [if_pos (by omega)]
  rw [e3, hsz, show (((gi.num u i 1).toNat : Nat) : Int) = gi.num u i 1 by omega, hpr, e1, show (1 : Int).toNat = 1 from rfl, np.extract_join u _ _ _ (by omega) (by omega), e2]
  congr 1
  omega
theorem long_back {u : ByteArray} {i : Int} (h : gl.here u i = true) : 0 ≤ i ∧ gl.behind u i = ((gl.behind u i).toNat : Int) ∧ i.toNat ≤ (gl.behind u i).toNat ∧ (gl.behind u i).toNat ≤ u.size ∧ pl.out (gl.text u i) = u.extract i.toNat (gl.behind u i).toNat := by
  have h' := h
  simp only [gl.here, Bool.and_eq_true, decide_eq_true_eq] at h'
  obtain ⟨⟨hok, hle⟩, hin⟩ := h'
  have hp := gl.parts u i hok
  have hst : gi.stop u i 4 = i + 4 := by simp only [gi.stop, hok, if_true]
  have hok' := hok
  simp only [gi.okAt, Bool.and_eq_true, decide_eq_true_eq] at hok'
  have hpr := np.put_read u i 4 hok
  have e1 : gl.text u i = u.extract (i.toNat + 4) (i.toNat + 4 + (gi.num u i 4).toNat) := by
    simp only [gl.text, h, if_true, hst]
    rw [show (i + 4).toNat = i.toNat + 4 by omega]
  have e2 : gl.behind u i = i + 4 + gi.num u i 4 := by simp only [gl.behind, h, if_true, hst]
  have hsz : (gl.text u i).size = (gi.num u i 4).toNat := by rw [e1, ByteArray.size_extract]; omega
  refine ⟨by omega, by omega, by omega, by omega, ?_⟩
  have e3 : pl.out (gl.text u i) = pi.text ((gl.text u i).size : Int) 4 ++ gl.text u i := by
    unfold pl.out
    rw [if_pos (by omega)]
  rw [e3, hsz, show (((gi.num u i 4).toNat : Nat) : Int) = gi.num u i 4 by omega, hpr, e1, show (4 : Int).toNat = 4 from rfl, np.extract_join u _ _ _ (by omega) (by omega), e2]
  congr 1
  omega

theorem short_out {a : ByteArray} (h : a.size ≤ 255) : pi.fits (a.size : Int) 1 = true ∧ ps.out a = pi.text (a.size : Int) 1 ++ a ∧ (ps.out a).size = 1 + a.size := by
  have hf : pi.fits (a.size : Int) 1 = true := by simp [pi.fits, sz.mostOf]; omega
  have e : ps.out a = pi.text (a.size : Int) 1 ++ a := by unfold ps.out; rw [if_pos h]
  have hs := np.text_size hf
  exact ⟨hf, e, by rw [e, ByteArray.size_append]; omega⟩
theorem long_out {a : ByteArray} (h : a.size ≤ 100000) : pi.fits (a.size : Int) 4 = true ∧ pl.out a = pi.text (a.size : Int) 4 ++ a ∧ (pl.out a).size = 4 + a.size := by
  have hf : pi.fits (a.size : Int) 4 = true := by simp [pi.fits, sz.mostOf]; omega
  have e : pl.out a = pi.text (a.size : Int) 4 ++ a := by unfold pl.out; rw [if_pos h]
  have hs := np.text_size hf
  exact ⟨hf, e, by rw [e, ByteArray.size_append]; omega⟩

end Go.Proofs.YtoemkbooomgieaaGreatDoor.sp

/- Batches and records on bytes: what is put is read again, and what is read was put; of a log that is cut off or spoilt in its last record the records ahead are left. -/
namespace Go.Proofs.YtoemkbooomgieaaGreatDoor.rro
open Go.ChangeShapes Go.WideShapes Go.ChangeAt Go.RowKit Go.Proofs.YtoemkbooomgieaaGreatDoor.fl Go.Proofs.YtoemkbooomgieaaGreatDoor.gbp Go.Proofs.YtoemkbooomgieaaGreatDoor.rcp Go.Proofs.YtoemkbooomgieaaGreatDoor.bo
set_option linter.unusedVariables false

theorem assoc (a b c : ByteArray) : a ++ b ++ c = a ++ (b ++ c) := by apply ByteArray.ext; apply Array.toList_inj.1; simp
theorem nil_app (a : ByteArray) : (⟨#[]⟩ : ByteArray) ++ a = a := by apply ByteArray.ext; apply Array.toList_inj.1; simp
theorem app_nil (a : ByteArray) : a ++ (⟨#[]⟩ : ByteArray) = a := by apply ByteArray.ext; apply Array.toList_inj.1; simp
theorem read_short {a : ByteArray} (h : a.size ≤ 255) (p q : ByteArray) : gs.text (p ++ ps.out a ++ q) p.size = a ∧ gs.behind (p ++ ps.out a ++ q) p.size = p.size + ((ps.out a).size : Int) ∧ gs.here (p ++ ps.out a ++ q) p.size = true := by
  obtain ⟨hf, e, hsz⟩ := sp.short_out h
  have ht := np.text_size hf
  have e1 : p ++ ps.out a ++ q = p ++ pi.text (a.size : Int) 1 ++ (a ++ q) := by (rw [e]; simp only [assoc])
  obtain ⟨hn, hs, hok⟩ := np.read_put hf p (a ++ q)
  rw [← e1] at hn hs hok
  have hall : (p ++ ps.out a ++ q).size = p.size + (1 + a.size) + q.size := by simp [ByteArray.size_append]; omega
  have hh : gs.here (p ++ ps.out a ++ q) p.size = true := by
    simp only [gs.here, hok, hn, hs, Bool.true_and, Bool.and_eq_true, decide_eq_true_eq]
    omega
  refine ⟨?_, by simp only [gs.behind, hh, if_true, hn, hs]; omega, hh⟩
  simp only [gs.text, hh, if_true, hn, hs]
  have hm := np.extract_mid (p ++ pi.text (a.size : Int) 1) a q
  have e2 : p ++ pi.text (a.size : Int) 1 ++ a ++ q = p ++ ps.out a ++ q := by (rw [e]; simp only [assoc])
  rw [e2, show (p ++ pi.text (a.size : Int) 1).size = p.size + 1 by rw [ByteArray.size_append]; omega] at hm
  rw [show ((p.size : Int) + 1).toNat = p.size + 1 by omega, show ((a.size : Int)).toNat = a.size by omega]
  exact hm
theorem read_long {a : ByteArray} (h : a.size ≤ 100000) (p q : ByteArray) : gl.text (p ++ pl.out a ++ q) p.size = a ∧ gl.behind (p ++ pl.out a ++ q) p.size = p.size + ((pl.out a).size : Int) ∧ gl.here (p ++ pl.out a ++ q) p.size = true := by
  obtain ⟨hf, e, hsz⟩ := sp.long_out h
  have ht := np.text_size hf
  have e1 : p ++ pl.out a ++ q = p ++ pi.text (a.size : Int) 4 ++ (a ++ q) := by (rw [e]; simp only [assoc])
  obtain ⟨hn, hs, hok⟩ := np.read_put hf p (a ++ q)
  rw [← e1] at hn hs hok
  have hall : (p ++ pl.out a ++ q).size = p.size + (4 + a.size) + q.size := by simp [ByteArray.size_append]; omega
  have hh : gl.here (p ++ pl.out a ++ q) p.size = true := by
    simp only [gl.here, hok, hn, hs, Bool.true_and, Bool.and_eq_true, decide_eq_true_eq]
    omega
  refine ⟨?_, by simp only [gl.behind, hh, if_true, hn, hs]; omega, hh⟩
  simp only [gl.text, hh, if_true, hn, hs]
  have hm := np.extract_mid (p ++ pi.text (a.size : Int) 4) a q
  have e2 : p ++ pi.text (a.size : Int) 4 ++ a ++ q = p ++ pl.out a ++ q := by (rw [e]; simp only [assoc])
  rw [e2, show (p ++ pi.text (a.size : Int) 4).size = p.size + 4 by rw [ByteArray.size_append]; omega] at hm
  rw [show ((p.size : Int) + 4).toNat = p.size + 4 by omega, show ((a.size : Int)).toNat = a.size by omega]
  exact hm
theorem fits1 {n : Nat} (h : n ≤ 255) : pi.fits (n : Int) 1 = true := by simp [pi.fits, sz.mostOf]; omega
theorem fits4 {n : Nat} (h : n < 4294967296) : pi.fits (n : Int) 4 = true := by simp [pi.fits, sz.mostOf]; omega
theorem text0 : pi.text 0 1 = ⟨#[0]⟩ := by decide +kernel
theorem text1 : pi.text 1 1 = ⟨#[1]⟩ := by decide +kernel
/-- a pair that was put is read again, wherever it stands -/
theorem one_read {e : flP.Pr} (h : okP e) (p q : ByteArray) : stp (p ++ pb.one e ++ q) p.size = some (e, p.size + ((pb.one e).size : Int)) := by
  obtain ⟨k, v, g⟩ := e
  obtain ⟨h1, h2, h3, h4⟩ := h
  simp only at h1 h2 h3 h4
  cases g with
  | true =>
    obtain rfl := h4 rfl
    have eo : pb.one ⟨k, ⟨#[]⟩, true⟩ = pi.text (1 : Nat) 1 ++ ps.out k := by unfold pb.one; rw [if_pos rfl, ← text1]; rfl
    have hf := fits1 (n := 1) (by omega)
    have ht := np.text_size hf
    have e1 : p ++ (pi.text (1 : Nat) 1 ++ ps.out k) ++ q = p ++ pi.text (1 : Nat) 1 ++ (ps.out k ++ q) := by simp only [assoc]
    have e2 : p ++ (pi.text (1 : Nat) 1 ++ ps.out k) ++ q = (p ++ pi.text (1 : Nat) 1) ++ ps.out k ++ q := by rw [← assoc p]
    obtain ⟨n1, n2, n3⟩ := np.read_put hf p (ps.out k ++ q)
    rw [← e1] at n1 n2 n3
    obtain ⟨t1, t2, t3⟩ := read_short (a := k) (by omega) (p ++ pi.text (1 : Nat) 1) q
    rw [← e2, show (((p ++ pi.text (1 : Nat) 1).size : Nat) : Int) = (p.size : Int) + 1 by rw [ByteArray.size_append]; omega] at t1 t2 t3
    rw [eo]
    unfold stp
    rw [n3, t3, n1, if_pos (by simp), if_pos (show ((1 : Nat) : Int) = 1 from rfl), t1, t2, show ((pi.text ((1 : Nat) : Int) 1 ++ ps.out k).size : Int) = 1 + ((ps.out k).size : Int) by rw [ByteArray.size_append]; omega]
    congr 2
    omega
  | false =>
    have eo : pb.one ⟨k, v, false⟩ = pi.text (0 : Nat) 1 ++ ps.out k ++ pl.out v := by unfold pb.one; rw [if_neg (by simp), ← text0]; rfl
    have hf := fits1 (n := 0) (by omega)
    have ht := np.text_size hf
    have e1 : p ++ (pi.text (0 : Nat) 1 ++ ps.out k ++ pl.out v) ++ q = p ++ pi.text (0 : Nat) 1 ++ (ps.out k ++ pl.out v ++ q) := by simp only [assoc]
    have e2 : p ++ (pi.text (0 : Nat) 1 ++ ps.out k ++ pl.out v) ++ q = (p ++ pi.text (0 : Nat) 1) ++ ps.out k ++ (pl.out v ++ q) := by simp only [assoc]
    have e3 : p ++ (pi.text (0 : Nat) 1 ++ ps.out k ++ pl.out v) ++ q = (p ++ pi.text (0 : Nat) 1 ++ ps.out k) ++ pl.out v ++ q := by simp only [assoc]
    obtain ⟨n1, n2, n3⟩ := np.read_put hf p (ps.out k ++ pl.out v ++ q)
    rw [← e1] at n1 n2 n3
    obtain ⟨t1, t2, t3⟩ := read_short (a := k) (by omega) (p ++ pi.text (0 : Nat) 1) (pl.out v ++ q)
    rw [← e2, show (((p ++ pi.text (0 : Nat) 1).size : Nat) : Int) = (p.size : Int) + 1 by rw [ByteArray.size_append]; omega] at t1 t2 t3
    obtain ⟨l1, l2, l3⟩ := read_long (a := v) (by omega) (p ++ pi.text (0 : Nat) 1 ++ ps.out k) q
    rw [← e3, show (((p ++ pi.text (0 : Nat) 1 ++ ps.out k).size : Nat) : Int) = (p.size : Int) + 1 + ((ps.out k).size : Int) by rw [ByteArray.size_append, ByteArray.size_append]; omega] at l1 l2 l3
    rw [eo]
    unfold stp
    rw [n3, t3, n1, if_pos (by simp), if_neg (by simp), t1, t2, if_pos l3, l1, l2, show ((pi.text ((0 : Nat) : Int) 1 ++ ps.out k ++ pl.out v).size : Int) = 1 + ((ps.out k).size : Int) + ((pl.out v).size : Int) by rw [ByteArray.size_append, ByteArray.size_append]; omega]
    congr 2
    omega
theorem all_read : ∀ (l : List flP.Pr), (∀ e ∈ l, okP e) → ∀ (p q : ByteArray), rn (p ++ pb.all l ++ q) l.length p.size = some (l, p.size + ((pb.all l).size : Int))
  | [], _, p, q => by
    show some (([] : List flP.Pr), (p.size : Int)) = some ([], (p.size : Int) + ((0 : Nat) : Int))
    simp
  | e :: l, h, p, q => by
    have h1 := one_read (h e (by simp)) p (pb.all l ++ q)
    have e1 : p ++ pb.all (e :: l) ++ q = p ++ pb.one e ++ (pb.all l ++ q) := by simp only [pb.all]; simp only [assoc]
    have e2 : p ++ pb.all (e :: l) ++ q = (p ++ pb.one e) ++ pb.all l ++ q := by simp only [pb.all]; rw [← assoc p]
    have h2 := all_read l (fun x hx => h x (by simp [hx])) (p ++ pb.one e) q
    rw [← e1] at h1
    rw [← e2, show (((p ++ pb.one e).size : Nat) : Int) = (p.size : Int) + ((pb.one e).size : Int) by rw [ByteArray.size_append]; omega] at h2
    simp only [List.length_cons, rn, h1, h2]
    congr 2
    simp only [pb.all, ByteArray.size_append]
    omega
theorem okb_all {l : List flP.Pr} (h : okb l = true) : l.length ≤ 60 ∧ ∀ e ∈ l, okP e := by
  have h1 : OkB l := by unfold okb at h; exact (@decide_eq_true_iff _ (Classical.propDecidable _)).1 h
  refine ⟨h1.1, fun e he => ?_⟩
  obtain ⟨i, hi⟩ := List.mem_iff_getElem?.1 he
  exact h1.2 i e hi
/-- a batch comes back from its bytes -/
theorem got_put {l : List flP.Pr} (h : okb l = true) : got (pb.out l) = some l := by
  obtain ⟨h60, hall⟩ := okb_all h
  have hf := fits1 (n := l.length) (by omega)
  have ht := np.text_size hf
  have eo : pb.out l = pi.text l.length 1 ++ pb.all l := by unfold pb.out; rw [if_pos h]
  have e1 : pi.text l.length 1 ++ pb.all l = (⟨#[]⟩ : ByteArray) ++ pi.text l.length 1 ++ pb.all l := by rw [nil_app]
  have e2 : pi.text l.length 1 ++ pb.all l = pi.text l.length 1 ++ pb.all l ++ (⟨#[]⟩ : ByteArray) := by rw [app_nil]
  obtain ⟨n1, _, n3⟩ := np.read_put hf (⟨#[]⟩ : ByteArray) (pb.all l)
  rw [← e1] at n1 n3
  have hz : (((⟨#[]⟩ : ByteArray).size : Nat) : Int) = 0 := rfl
  rw [hz] at n1 n3
  have hr := all_read l hall (pi.text l.length 1) (⟨#[]⟩ : ByteArray)
  rw [← e2, ht] at hr
  rw [eo]
  unfold got
  rw [n3, n1, if_pos (by simp; omega), show ((l.length : Int)).toNat = l.length by omega, hr]
  simp only
  rw [if_pos]
  rw [h, Bool.and_true, decide_eq_true_eq, ByteArray.size_append]
  omega
theorem stp_back {s : ByteArray} {i j : Int} {e : flP.Pr} (h : stp s i = some (e, j)) : 0 ≤ i ∧ i ≤ j ∧ j ≤ s.size ∧ pb.one e = s.extract i.toNat j.toNat := by
  unfold stp at h
  split at h
  · rename_i hc
    simp only [Bool.and_eq_true, decide_eq_true_eq] at hc
    obtain ⟨c1, c2, c3⟩ := hc
    have hp := np.put_read s i 1 c1
    have hi : 0 ≤ i ∧ 0 ≤ gi.num s i 1 := by
      have := gs.parts s i c1
      unfold gi.okAt at c1
      simp only [Bool.and_eq_true, decide_eq_true_eq] at c1
      omega
    obtain ⟨b0, b1, b2, b3, b4⟩ := sp.short_back c2
    split at h
    · rename_i hg
      obtain ⟨rfl, rfl⟩ := Prod.mk.inj (Option.some.inj h)
      refine ⟨hi.1, by omega, by omega, ?_⟩
      unfold pb.one
      rw [if_pos rfl]
      simp only
      have ht : (⟨#[1]⟩ : ByteArray) = s.extract i.toNat (i.toNat + 1) := by rw [← text1]; rw [hg] at hp; exact hp
      rw [b4, ht, show (i + 1).toNat = i.toNat + 1 by omega]
      exact np.extract_join s _ _ _ (by omega) (by omega)
    · rename_i hg
      split at h
      · rename_i hl
        obtain ⟨rfl, rfl⟩ := Prod.mk.inj (Option.some.inj h)
        obtain ⟨d0, d1, d2, d3, d4⟩ := sp.long_back hl
        have h0 : gi.num s i 1 = 0 := by omega
        refine ⟨hi.1, by omega, by omega, ?_⟩
        unfold pb.one
        rw [if_neg (by simp)]
        simp only
        have ht : (⟨#[0]⟩ : ByteArray) = s.extract i.toNat (i.toNat + 1) := by rw [← text0]; rw [h0] at hp; exact hp
        rw [b4, d4, ht, show (i + 1).toNat = i.toNat + 1 by omega]
        rw [np.extract_join s _ _ _ (by omega) (by omega)]
        exact np.extract_join s _ _ _ (by omega) (by omega)
      · cases h
  · cases h
theorem rn_back (s : ByteArray) : ∀ (k : Nat) (i : Int) (l : List flP.Pr) (e : Int), 0 ≤ i → i ≤ s.size → rn s k i = some (l, e) → i ≤ e ∧ e ≤ s.size ∧ pb.all l = s.extract i.toNat e.toNat
  | 0, i, l, e, h0, h1, h => by
    simp only [rn, Option.some.injEq, Prod.mk.injEq] at h
    obtain ⟨rfl, rfl⟩ := h
    refine ⟨by omega, h1, ?_⟩
    apply ByteArray.ext
    apply Array.toList_inj.1
    rw [Lib.extract_data]
    simp [pb.all]
  | k + 1, i, l, e, h0, h1, h => by
    unfold rn at h
    cases hs : stp s i with
    | none => rw [hs] at h; simp at h
    | some x =>
      obtain ⟨p, j⟩ := x
      rw [hs] at h
      simp only at h
      cases h2 : rn s k j with
      | none => rw [h2] at h; simp at h
      | some y =>
        obtain ⟨m, z⟩ := y
        rw [h2] at h
        simp only [Option.some.injEq, Prod.mk.injEq] at h
        obtain ⟨rfl, rfl⟩ := h
        obtain ⟨a0, a1, a2, a3⟩ := stp_back hs
        obtain ⟨b1, b2, b3⟩ := rn_back s k j m z (by omega) a2 h2
        refine ⟨by omega, b2, ?_⟩
        simp only [pb.all]
        rw [a3, b3]
        exact np.extract_join s _ _ _ (by omega) (by omega)
theorem whole (s : ByteArray) : s.extract 0 s.size = s := by
  apply ByteArray.ext
  apply Array.toList_inj.1
  rw [Lib.extract_data, List.drop_zero, Nat.sub_zero]
  exact List.take_of_length_le (by simp)
/-- what is read as a batch are its bytes -/
theorem put_got {s : ByteArray} {l : List flP.Pr} (h : got s = some l) : okb l = true ∧ pb.out l = s ∧ 1 ≤ s.size := by
  unfold got at h
  split at h
  · rename_i hc
    simp only [Bool.and_eq_true, decide_eq_true_eq] at hc
    have hp := np.put_read s 0 1 hc.1
    have hn : 0 ≤ gi.num s 0 1 ∧ 1 ≤ s.size := by
      have h1 := gs.parts s 0 hc.1
      have h2 := hc.1
      unfold gi.okAt at h2
      simp only [Bool.and_eq_true, decide_eq_true_eq] at h2
      omega
    cases hr : rn s (gi.num s 0 1).toNat 1 with
    | none => rw [hr] at h; cases h
    | some x =>
      obtain ⟨m, e⟩ := x
      rw [hr] at h
      simp only at h
      split at h
      · rename_i h2
        simp only [Bool.and_eq_true, decide_eq_true_eq] at h2
        obtain ⟨rfl, hok⟩ := h2
        cases h
        have hlen := rn_len s _ _ _ _ hr
        obtain ⟨_, _, hb⟩ := rn_back s _ _ _ _ (by omega) (by omega) hr
        refine ⟨hok, ?_, hn.2⟩
        unfold pb.out
        rw [if_pos hok, hlen, hb, show (((gi.num s 0 1).toNat : Nat) : Int) = gi.num s 0 1 by omega, hp]
        have := np.extract_join s 0 1 s.size (by omega) (by omega)
        rw [whole] at this
        exact this
      · cases h
  · cases h
theorem gotB_back {s : ByteArray} (h : gotB s = true) : okb (gotL s) = true ∧ pb.out (gotL s) = s ∧ 1 ≤ s.size := by
  unfold gotB at h
  cases hg : got s with
  | none => rw [hg] at h; cases h
  | some l =>
    have := put_got hg
    unfold gotL
    rw [hg]
    exact this
theorem out_pos {l : List flP.Pr} : (pb.out l).size = 0 ↔ okb l = false := by
  cases h : okb l with
  | false => unfold pb.out; rw [if_neg (by rw [h]; simp)]; exact ⟨fun _ => rfl, fun _ => rfl⟩
  | true =>
    have := (put_got (got_put h)).2.2
    simp only [Bool.true_eq_false, iff_false]
    omega
/-- a record: its sum, its body -/
def R (c : Nat) (b : ByteArray) : ByteArray := pi.text c 4 ++ pl.out b
theorem R_size {c : Nat} {b : ByteArray} (hc : c < 4294967296) (hb : b.size ≤ 100000) : (R c b).size = 8 + b.size := by
  have h1 := np.text_size (fits4 hc)
  have h2 := (sp.long_out hb).2.2
  unfold R
  rw [ByteArray.size_append]
  omega
theorem R_read {c : Nat} {b : ByteArray} (hc : c < 4294967296) (hb : b.size ≤ 100000) (p q : ByteArray) : isR (p ++ R c b ++ q) p.size = (decide ((c : Int) = (cs.sum b : Int)) && gotB b) ∧ bat (p ++ R c b ++ q) p.size = gotL b ∧ nxt (p ++ R c b ++ q) p.size = p.size + ((R c b).size : Int) := by
  have hf := fits4 hc
  have ht := np.text_size hf
  have e1 : p ++ R c b ++ q = p ++ pi.text c 4 ++ (pl.out b ++ q) := by unfold R; simp only [assoc]
  have e2 : p ++ R c b ++ q = (p ++ pi.text c 4) ++ pl.out b ++ q := by unfold R; rw [← assoc p]
  obtain ⟨n1, _, n3⟩ := np.read_put hf p (pl.out b ++ q)
  rw [← e1] at n1 n3
  obtain ⟨t1, t2, t3⟩ := read_long hb (p ++ pi.text c 4) q
  rw [← e2, show (((p ++ pi.text c 4).size : Nat) : Int) = (p.size : Int) + 4 by rw [ByteArray.size_append]; omega] at t1 t2 t3
  refine ⟨?_, ?_, ?_⟩
  · unfold isR
    rw [n3, t3, n1, t1]
    simp
  · unfold bat
    rw [t1]
  · unfold nxt
    rw [t2]
    unfold R
    rw [ByteArray.size_append]
    omega
theorem isR_back {s : ByteArray} {i : Int} (h : isR s i = true) : 0 ≤ i ∧ i ≤ nxt s i ∧ nxt s i ≤ s.size ∧ rcd.out (bat s i) = s.extract i.toNat (nxt s i).toNat ∧ (rcd.out (bat s i)).size ≠ 0 := by
  have hin := isR_in h
  unfold isR at h
  simp only [Bool.and_eq_true, decide_eq_true_eq] at h
  obtain ⟨h1, h2, h3, h4⟩ := h
  obtain ⟨k1, k2, k3⟩ := gotB_back h4
  obtain ⟨b0, b1, b2, b3, b4⟩ := sp.long_back h2
  have hp := np.put_read s i 4 h1
  have hs : (gl.text s (i + 4)).size ≤ 100000 := by
    have hh := h2
    unfold gl.text
    rw [if_pos h2]
    unfold gl.here at hh
    simp only [Bool.and_eq_true, decide_eq_true_eq] at hh
    rw [ByteArray.size_extract]
    omega
  have e : rcd.out (bat s i) = s.extract i.toNat (nxt s i).toNat := by
    unfold rcd.out bat
    rw [k2, if_neg (by omega), ← h3, hp, b4, show (4 : Int).toNat = 4 from rfl, show (i + 4).toNat = i.toNat + 4 by omega]
    unfold nxt
    exact np.extract_join s _ _ _ (by omega) (by omega)
  refine ⟨hin.1, by omega, hin.2.2, e, ?_⟩
  rw [e, ByteArray.size_extract]
  omega
/-- the bytes of batches, one record behind the other -/
noncomputable def cat : List (List flP.Pr) → ByteArray
  | [] => ⟨#[]⟩
  | b :: l => rcd.out b ++ cat l
theorem cat_snoc (l : List (List flP.Pr)) (b : List flP.Pr) : cat (l ++ [b]) = cat l ++ rcd.out b := by
  induction l with
  | nil => simp only [List.nil_append, cat]; rw [app_nil, nil_app]
  | cons x l ih => simp only [List.cons_append, cat, ih]; simp only [assoc]
/-- a batch that has a record -/
def Rok (b : List flP.Pr) : Prop := (rcd.out b).size ≠ 0
theorem rok_form {b : List flP.Pr} (h : Rok b) : okb b = true ∧ (pb.out b).size ≤ 100000 ∧ rcd.out b = R (cs.sum (pb.out b)) (pb.out b) ∧ 1 ≤ (pb.out b).size := by
  unfold Rok rcd.out at h
  split at h
  · exact absurd rfl h
  · rename_i hn
    have h1 : ¬ (pb.out b).size = 0 := fun e => hn (.inl e)
    have h2 : ¬ 100000 < (pb.out b).size := fun e => hn (.inr e)
    refine ⟨?_, by omega, by unfold rcd.out R; rw [if_neg hn], by omega⟩
    cases ho : okb b with
    | true => rfl
    | false => exact absurd (out_pos.2 ho) h1
theorem rok_read {b : List flP.Pr} (h : Rok b) (p q : ByteArray) : isR (p ++ rcd.out b ++ q) p.size = true ∧ bat (p ++ rcd.out b ++ q) p.size = b ∧ nxt (p ++ rcd.out b ++ q) p.size = p.size + ((rcd.out b).size : Int) := by
  obtain ⟨h1, h2, h3, _⟩ := rok_form h
  obtain ⟨g1, g2⟩ := got_some (got_put h1)
  rw [h3]
  obtain ⟨r1, r2, r3⟩ := R_read (sp.sum_lt _) h2 p q
  refine ⟨by rw [r1, g2]; simp, by rw [r2, g1], r3⟩
theorem left_cat (q : ByteArray) (m : List (List flP.Pr)) : ∀ (l R : List (List flP.Pr)), (∀ b ∈ l, Rok b) → rcp.Left (cat R ++ cat l ++ q) R ((cat R).size : Nat) → rcp.Left (cat (R ++ l) ++ q) (R ++ l) ((cat (R ++ l)).size : Nat)
  | [], R, _, h => by
    simp only [cat] at h
    rw [app_nil] at h
    simpa using h
  | b :: l, R, hr, h => by
    obtain ⟨r1, r2, r3⟩ := rok_read (hr b (by simp)) (cat R) (cat l ++ q)
    have e1 : cat R ++ cat (b :: l) ++ q = cat R ++ rcd.out b ++ (cat l ++ q) := by simp only [cat]; simp only [assoc]
    rw [e1] at h
    have h2 := rcp.left_yes h r1
    rw [r2, r3] at h2
    have e2 : cat R ++ rcd.out b ++ (cat l ++ q) = cat (R ++ [b]) ++ cat l ++ q := by (rw [cat_snoc]; simp only [assoc])
    rw [e2, show ((cat R).size : Int) + ((rcd.out b).size : Int) = (((cat (R ++ [b])).size : Nat) : Int) by rw [cat_snoc, ByteArray.size_append]; omega] at h2
    have h3 := left_cat q m l (R ++ [b]) (fun x hx => hr x (by simp [hx])) h2
    rwa [List.append_assoc, List.singleton_append] at h3
/-- records one behind the other are read one by one; behind them, where none stands, it ends -/
theorem recs_cat {l : List (List flP.Pr)} {q : ByteArray} (hr : ∀ b ∈ l, Rok b) (hs : (cat l ++ q).size ≤ 200000) (hn : isR (cat l ++ q) ((cat l).size : Nat) = false) : recs (cat l ++ q) = (l, (((cat l).size : Nat) : Int)) := by
  have h0 : rcp.Left (cat [] ++ cat l ++ q) [] ((cat []).size : Nat) := rcp.left_0 _
  have h1 := left_cat q [] l [] hr h0
  rw [List.nil_append] at h1
  exact rcp.left_end hs h1 hn
/-- what is read of a log are the records of its beginning -/
theorem recs_form {s : ByteArray} (hs : s.size ≤ 200000) : (∀ b ∈ (recs s).1, Rok b) ∧ (recs s).2 = ((cat (recs s).1).size : Nat) ∧ s.extract 0 (cat (recs s).1).size = cat (recs s).1 ∧ (cat (recs s).1).size ≤ s.size := by
  suffices h : ∀ (d : Nat) (R : List (List flP.Pr)) (i : Int), rcp.Left s R i → (∀ b ∈ R, Rok b) → i = ((cat R).size : Nat) → s.extract 0 (cat R).size = cat R → s.size - i.toNat ≤ d → (∀ b ∈ (recs s).1, Rok b) ∧ (recs s).2 = ((cat (recs s).1).size : Nat) ∧ s.extract 0 (cat (recs s).1).size = cat (recs s).1 ∧ (cat (recs s).1).size ≤ s.size from
    h (s.size + 1) [] 0 (rcp.left_0 s) (fun b hb => by cases hb) rfl (by apply ByteArray.ext; apply Array.toList_inj.1; rw [Lib.extract_data]; exact List.take_zero) (by omega)
  intro d
  induction d with
  | zero =>
    intro R i h h1 h2 h3 h4
    have hh := h.hi
    rw [rcp.left_end hs h (rcp.isR_end (by have := h.far; omega))]
    exact ⟨h1, h2, h3, by show (cat R).size ≤ s.size; omega⟩
  | succ d ih =>
    intro R i h h1 h2 h3 h4
    have hh := h.hi
    cases hr : isR s i with
    | false =>
      rw [rcp.left_end hs h hr]
      exact ⟨h1, h2, h3, by show (cat R).size ≤ s.size; omega⟩
    | true =>
      obtain ⟨b0, b1, b2, b3, b4⟩ := isR_back hr
      have hin := isR_in hr
      have hsz : (rcd.out (bat s i)).size = (nxt s i).toNat - i.toNat := by rw [b3, ByteArray.size_extract]; omega
      refine ih _ _ (rcp.left_yes h hr) (fun b hb => ?_) ?_ ?_ (by omega)
      · rcases List.mem_append.1 hb with hb | hb
        · exact h1 b hb
        · rw [List.mem_singleton.1 hb]; exact b4
      · rw [cat_snoc, ByteArray.size_append]; omega
      · have e0 : (cat R).size + (rcd.out (bat s i)).size = (nxt s i).toNat := by omega
        rw [cat_snoc, ByteArray.size_append, e0, b3]
        conv => rhs; rw [← h3, show (cat R).size = i.toNat by omega]
        exact (np.extract_join s _ _ _ (by omega) (by omega)).symm
/-- one record more -/
theorem recs_more {l : List (List flP.Pr)} {b : List flP.Pr} (hr : ∀ x ∈ l, Rok x) (hb : Rok b) (hs : (cat l ++ rcd.out b).size ≤ 200000) : recs (cat l ++ rcd.out b) = (l ++ [b], (((cat l ++ rcd.out b).size : Nat) : Int)) := by
  have e : cat l ++ rcd.out b = cat (l ++ [b]) ++ (⟨#[]⟩ : ByteArray) := by rw [cat_snoc, app_nil]
  have h := recs_cat (l := l ++ [b]) (q := (⟨#[]⟩ : ByteArray)) (fun x hx => by
    rcases List.mem_append.1 hx with hx | hx
    · exact hr x hx
    · rw [List.mem_singleton.1 hx]; exact hb) (by rw [← e]; exact hs) (rcp.isR_end (by rw [app_nil]; omega))
  rw [← e] at h
  rw [h, cat_snoc]
/-- of a record that is cut off nothing is left -/
theorem recs_cut {l : List (List flP.Pr)} {b : List flP.Pr} (hr : ∀ x ∈ l, Rok x) (hb : Rok b) (hs : (cat l ++ rcd.out b).size ≤ 200000) : recs ((cat l ++ rcd.out b).extract 0 ((cat l ++ rcd.out b).size - 1)) = (l, (((cat l).size : Nat) : Int)) := by
  obtain ⟨_, h2, h3, h4⟩ := rok_form hb
  generalize pb.out b = y at h2 h3 h4
  obtain ⟨hf, hl, hls⟩ := sp.long_out h2
  have hf4 := fits4 (sp.sum_lt y)
  have ht := np.text_size hf4
  have ht2 := np.text_size hf
  have hsz := R_size (sp.sum_lt y) h2
  have e : (cat l ++ rcd.out b).extract 0 ((cat l ++ rcd.out b).size - 1) = cat l ++ (pi.text (cs.sum y : Nat) 4 ++ pi.text (y.size : Int) 4 ++ y.extract 0 (y.size - 1)) := by
    rw [h3]
    unfold R at hsz ⊢
    rw [hl] at hsz ⊢
    apply ByteArray.ext
    apply Array.toList_inj.1
    rw [Lib.extract_data]
    simp only [ByteArray.data_append, Array.toList_append, Lib.extract_data, List.drop_zero, Nat.sub_zero]
    have l1 : ∀ a : ByteArray, a.data.toList.length = a.size := fun a => by simp
    rw [← List.append_assoc, ← List.append_assoc, ← List.append_assoc, ← List.append_assoc, List.take_append, List.take_of_length_le (by simp only [List.length_append, l1, ByteArray.size_append] at hsz ⊢; omega)]
    congr 2
    simp only [List.length_append, l1, ByteArray.size_append] at hsz ⊢
    omega
  rw [e]
  refine recs_cat hr ?_ ?_
  · rw [h3, ByteArray.size_append, hsz] at hs
    simp only [ByteArray.size_append, ByteArray.size_extract]
    omega
  · have e2 : cat l ++ (pi.text (cs.sum y : Nat) 4 ++ pi.text (y.size : Int) 4 ++ y.extract 0 (y.size - 1)) = cat l ++ pi.text (cs.sum y : Nat) 4 ++ pi.text (y.size : Int) 4 ++ y.extract 0 (y.size - 1) := by simp only [assoc]
    obtain ⟨n1, n2, n3⟩ := np.read_put hf (cat l ++ pi.text (cs.sum y : Nat) 4) (y.extract 0 (y.size - 1))
    rw [e2]
    rw [show (((cat l ++ pi.text (cs.sum y : Nat) 4).size : Nat) : Int) = ((cat l).size : Int) + 4 by rw [ByteArray.size_append]; omega] at n1 n2 n3
    have hh : gl.here (cat l ++ pi.text (cs.sum y : Nat) 4 ++ pi.text (y.size : Int) 4 ++ y.extract 0 (y.size - 1)) (((cat l).size : Int) + 4) = false := by
      unfold gl.here
      rw [n1, n2]
      simp only [Bool.and_eq_false_iff, decide_eq_false_iff_not]
      right
      simp only [ByteArray.size_append, ByteArray.size_extract]
      omega
    unfold isR
    rw [hh]
    simp
end Go.Proofs.YtoemkbooomgieaaGreatDoor.rro

/- TableSize, of the specification and of the program: how many pairs there are; new memory alone. -/
namespace Go.Proofs.YtoemkbooomgieaaGreatDoor.tsz
open Go.ChangeShapes Go.WideShapes Go.ChangeAt Go.RowKit Go.Proofs.YtoemkbooomgieaaGreatDoor.fl Go.Proofs.YtoemkbooomgieaaGreatDoor.rn
set_option linter.unusedVariables false

end Go.Proofs.YtoemkbooomgieaaGreatDoor.tsz
