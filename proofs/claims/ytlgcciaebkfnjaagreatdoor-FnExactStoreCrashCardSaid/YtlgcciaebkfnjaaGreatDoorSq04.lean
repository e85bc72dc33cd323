/- A list of structures that comes in as an argument, opened: as it lies in memory. -/
import Derived.Test.YtlgcciaebkfnjaaGreatDoorSq03
import Derived.Test.YtlgcciaebkfnjaaGreatDoorStoMarks
import Derived.Test.YtlgcciaebkfnjaaGreatDoorFlatLib
import Derived.Deep.SlicePairs
import Derived.Deep.Strs
import Derived.Lib.SmallJoins

/- StoreCrash: both sides in the form that the law takes. -/
namespace Go.Proofs.YtlgcciaebkfnjaaGreatDoor.scl
open Go.ChangeShapes Go.WideShapes Go.ChangeAt Go.RowKit Go.Proofs.YtlgcciaebkfnjaaGreatDoor.fl Go.Proofs.YtlgcciaebkfnjaaGreatDoor.fo Go.Proofs.YtlgcciaebkfnjaaGreatDoor.rn Go.Proofs.YtlgcciaebkfnjaaGreatDoor.mrR Go.Proofs.YtlgcciaebkfnjaaGreatDoor.mrT Go.Proofs.YtlgcciaebkfnjaaGreatDoor.tan Go.Proofs.YtlgcciaebkfnjaaGreatDoor.rcI
set_option linter.unusedVariables false

noncomputable def ansY (ys : List flP.Pr) (R : List (List flP.Pr)) (lg : ByteArray) (sf kp : Int) : List flP.Pr := sco.ansY lg sf kp
noncomputable def ansR (ys : List flP.Pr) (R : List (List flP.Pr)) (lg : ByteArray) (sf kp : Int) : List (List flP.Pr) := []
theorem ans_le (ys : List flP.Pr) (R : List (List flP.Pr)) (lg : ByteArray) (sf kp : Int) : tot (ansR ys R lg sf kp) ≤ ys.length + tot R ∧ (ansY ys R lg sf kp).length ≤ 200000 ∧ (ansR ys R lg sf kp).length ≤ R.length + 1 := ⟨Nat.zero_le _, sco.rep_len _, Nat.zero_le _⟩
theorem spec_crash (ys : List flP.Pr) (rs : List Rn) (a0 yc b rc : Nat) (lg : ByteArray) (sf kp : Int) (w : World) (F : tb.Fit ys rs) (hlg : lg.size ≤ 1048576) (hY : Row flP.c 3 w w.heap.size (some ⟨a0, 0, none⟩) ys) (hR : VR w w.heap.size (some ⟨b, 0, none⟩) rs) (hrs : ∀ r ∈ rs, ∃ h, r.a = some ⟨h, 0, none⟩) :
    Calls Tryz.prog 19 #[.agg #[.slice (some ⟨a0, 0, none⟩) ys.length yc, .slice (some ⟨b, 0, none⟩) rs.length rc, .string lg, .int .i64 sf], .int .i64 kp] w fun e w' => ∃ sa sc ta tc ks, e = .returned (.agg #[.slice sa (ansY ys (rs.map (·.l)) lg sf kp).length sc, .slice ta (ansR ys (rs.map (·.l)) lg sf kp).length tc, .string (sco.logL lg sf kp), .int .i64 (sco.endL lg sf kp)]) ∧ ks.map (·.l) = ansR ys (rs.map (·.l)) lg sf kp ∧ Row flP.c 3 w' w'.heap.size sa (ansY ys (rs.map (·.l)) lg sf kp) ∧ VR w' w'.heap.size ta ks ∧ Below w.heap.size w w' :=
  (sco.spec_crash (some ⟨a0, 0, none⟩) (some ⟨b, 0, none⟩) ys.length yc rs.length rc lg sf kp w hlg).mono fun e w' ⟨sa, sc, h1, h2, h3⟩ => ⟨sa, sc, none, 0, [], h1, rfl, h2.rows.1, h2.rows.2, h3⟩
theorem impl_crash (ys : List flP.Pr) (rs : List Rn) (ya ra : Option Addr) (yc rc : Nat) (lg : ByteArray) (sf kp : Int) (w : World) (F : tb.Fit ys rs) (hlg : lg.size ≤ 1048576) (hY : Row flP.c 3 w w.heap.size ya ys) (hR : VR w w.heap.size ra rs) (hT : TB w) :
    Calls Tryz.prog 18 #[.agg #[.slice ya ys.length yc, .slice ra rs.length rc, .string lg, .int .i64 sf], .int .i64 kp] w fun e w' => ∃ sa sc ta tc ks, e = .returned (.agg #[.slice sa (ansY ys (rs.map (·.l)) lg sf kp).length sc, .slice ta (ansR ys (rs.map (·.l)) lg sf kp).length tc, .string (sco.logL lg sf kp), .int .i64 (sco.endL lg sf kp)]) ∧ ks.map (·.l) = ansR ys (rs.map (·.l)) lg sf kp ∧ TA w' w.heap.size sa ta (ansY ys (rs.map (·.l)) lg sf kp) ks ∧ Below w.heap.size w w' :=
  (sco.impl_crash ya ra ys.length yc rs.length rc lg sf kp w hlg hT).mono fun e w' ⟨sa, sc, h1, h2, h3⟩ => ⟨sa, sc, none, 0, [], h1, rfl, h2, h3⟩
end Go.Proofs.YtlgcciaebkfnjaaGreatDoor.scl

/- The law of StoreCrash, walked: at every store the program answers as the specification, writes into nothing of it, and its answer owns its memory. -/
namespace Go.Proofs.YtlgcciaebkfnjaaGreatDoor.lwStoreCrash
open Go.ChangeShapes Go.WideShapes Go.ChangeAt Go.RowKit Go.Proofs.YtlgcciaebkfnjaaGreatDoor.fl Go.Proofs.YtlgcciaebkfnjaaGreatDoor.fo Go.Proofs.YtlgcciaebkfnjaaGreatDoor.rn Go.Proofs.YtlgcciaebkfnjaaGreatDoor.tb Go.Proofs.YtlgcciaebkfnjaaGreatDoor.tan Go.Proofs.YtlgcciaebkfnjaaGreatDoor.mrR Go.Proofs.YtlgcciaebkfnjaaGreatDoor.mrT
set_option linter.unusedVariables false

theorem two {w : World} {b : Nat} {x0 x1 x2 x3 : Value} {U : TypeId} (h : w.heap[b]? = some (.cells #[x0, x1, x2, x3] U (0, 0))) : w.cell? ⟨b, 0, none⟩ = some x0 ∧ w.cell? ⟨b, 1, none⟩ = some x1 ∧ w.cell? ⟨b, 2, none⟩ = some x2 ∧ w.cell? ⟨b, 3, none⟩ = some x3 := ⟨bcell h rfl, bcell h rfl, bcell h rfl, bcell h rfl⟩
/-- what stands when the specification has answered: the argument, and the answer with its lists -/
structure Base (W : World) (n0 n6 : Nat) (ys : List flP.Pr) (rs : List Rn) (ya ra : Option Addr) (yc rc : Nat) (lg : ByteArray) (sf : Int) (la : ByteArray) (zf : Int) (l : List flP.Pr) (R : List (List flP.Pr)) (k0 : List Rn) (sa sb : Option Addr) (ce cb : Nat) : Prop where
  bx : W.heap[n0]? = some (.cells #[.slice ya ys.length yc, .slice ra rs.length rc, .string lg, .int .i64 sf] 57 (0, 0))
  out : W.heap[n6]? = some (.cells #[.slice sa l.length ce, .slice sb R.length cb, .string la, .int .i64 zf] 29 (0, 0))
  ae : Row flP.c 3 W W.heap.size ya ys
  ab : VR W W.heap.size ra rs
  se : Row flP.c 3 W W.heap.size sa l
  sm : VR W W.heap.size sb k0
  mm : k0.map (·.l) = R
theorem eq_ans {w : World} {la : ByteArray} {zf : Int} {l : List flP.Pr} {R : List (List flP.Pr)} {k k0 : List Rn} {fa sa ga sb : Option Addr} {c5 ce d5 cb : Nat} (hl : l.length ≤ maxLen) (hR : R.length ≤ maxLen) (ht : tot R ≤ 2000000) (hk : k.map (·.l) = R) (h0 : k0.map (·.l) = R) (h1 : Row flP.c 3 w w.heap.size fa l) (h2 : Row flP.c 3 w w.heap.size sa l) (h3 : VR w w.heap.size ga k) (h4 : VR w w.heap.size sb k0) :
    Calls Tryz.prog 29 #[.agg #[.slice fa l.length c5, .slice ga R.length d5, .string la, .int .i64 zf], .agg #[.slice sa l.length ce, .slice sb R.length cb, .string la, .int .i64 zf]] w fun e w' => e = .returned (.bool true) ∧ Below w.heap.size w w' := by
  have hkl : k.length = R.length := by rw [← hk, List.length_map]
  have := sto.eq_store l k k0 fa sa ga sb c5 ce d5 cb la zf w hl (by rw [hkl]; exact hR) (fun e he => by
    have h1 : ln e ≤ bulk ln k := bulk_le ln he
    rw [bulk_map, hk] at h1
    unfold ln at h1
    unfold maxLen
    omega) (by rw [hk, h0]) h1 h2 h3 h4
  rw [hkl] at this
  exact this
set_option maxRecDepth 100000 in
set_option maxHeartbeats 4000000 in
theorem walk (ys : List flP.Pr) (rs : List Rn) (ya ra : Option Addr) (yc rc : Nat) (lg : ByteArray) (sf : Int) (kp : Int) (w : World) (hT : rcI.TB w) (hyl : ys.length ≤ maxLen) (hrl : rs.length ≤ maxLen) (hyo : ∀ e ∈ ys, flP.ok e) (hro : ∀ e ∈ rs, okR e) (hlg : lg.size ≤ maxLen) (hY : Row flP.c 3 w w.heap.size ya ys) (hR : VR w w.heap.size ra rs) :
    Calls Tryz.prog 5 #[.agg #[.slice ya ys.length yc, .slice ra rs.length rc, .string lg, .int .i64 sf], .int .i64 kp] w fun e w' => e = .returned (.bool true) ∧ Below w.heap.size w w' := by
  have HTB : Hid (rcI.TB w) := hT
  clear hT
  have hb : Below w.heap.size w (w.alloc (.cells #[.slice ya ys.length yc, .slice ra rs.length rc, .string lg, .int .i64 sf] 57)) := (Below.refl _ _).alloc (Nat.le_refl _) _
  have hA := bnew w #[.slice ya ys.length yc, .slice ra rs.length rc, .string lg, .int .i64 sf] 57
  obtain ⟨W, hW⟩ : ∃ W, w.alloc (.cells #[.slice ya ys.length yc, .slice ra rs.length rc, .string lg, .int .i64 sf] 57) = W := ⟨_, rfl⟩
  rw [hW] at hb hA
  have HSE : Hid (Row flP.c 3 W W.heap.size ya ys) := hY.inn hb
  have HSB : Hid (VR W W.heap.size ra rs) := hR.inn hb
  have hsz := sto.sz_store ys rs ya ra yc rc lg sf W hyl hrl hyo hro hlg HSE.out HSB.out
  have HA : Hid (W.heap[w.heap.size]? = some (.cells #[.slice ya ys.length yc, .slice ra rs.length rc, .string lg, .int .i64 sf] 57 (0, 0))) := hA
  have hlt := (Array.getElem?_eq_some_iff.1 hA).1
  obtain ⟨c0, c1, c2, c3⟩ := two hA
  clear hY hR hA hyo hro
  go_enter Tryz.func5, Tryz.ntmps5
  go_wp2_with (go_at_call 27; fail)
  clear hW
  refine hsz.mono ?_
  rintro e w1 ⟨r, rfl, hr, hb1⟩
  by_cases hneg : r < 0
  · go_wp2
    go_ret
    exact ⟨rfl, hb.trans (hb1.mono hb.size)⟩
  obtain ⟨htot, hlg2⟩ := hr (by omega)
  have hF : Hid (Fit ys rs) := fit htot
  have hbw := bulk_wt rs
  rw [bulk_map] at hbw
  have z1 : ys.length ≤ 1048576 := hF.out.yl
  have z2 : rs.length ≤ 1048576 := hF.out.rl
  have z3 : ys.length + tot (rs.map (·.l)) ≤ 1048576 := by omega
  obtain ⟨d0, d1, d2, d3⟩ := two (bstay HA.out hb1 hlt)
  have ht2 := sto.to_store ys rs ya ra yc rc lg sf w1 hF.out (HSE.out.inn hb1) (HSB.out.inn hb1)
  have hr0 : (0 : Int) ≤ r := by omega
  obtain ⟨q1, q2, q3⟩ := scl.ans_le ys (rs.map (·.l)) lg sf kp
  obtain ⟨l, hl⟩ : ∃ l, scl.ansY ys (rs.map (·.l)) lg sf kp = l := ⟨_, rfl⟩
  have HL : Hid (∀ _ : Unit, scl.ansY ys (rs.map (·.l)) lg sf kp = l) := fun _ => hl
  obtain ⟨la, hla⟩ : ∃ la, sco.logL lg sf kp = la := ⟨_, rfl⟩
  have HLA : Hid (∀ _ : Unit, sco.logL lg sf kp = la) := fun _ => hla
  obtain ⟨zf, hzf⟩ : ∃ zf, sco.endL lg sf kp = zf := ⟨_, rfl⟩
  have HZF : Hid (∀ _ : Unit, sco.endL lg sf kp = zf) := fun _ => hzf
  clear hla hzf
  obtain ⟨R, hRR⟩ : ∃ R, scl.ansR ys (rs.map (·.l)) lg sf kp = R := ⟨_, rfl⟩
  have HRR : Hid (∀ _ : Unit, scl.ansR ys (rs.map (·.l)) lg sf kp = R) := fun _ => hRR
  rw [hRR] at q1 q3
  rw [hl] at q2
  rw [List.length_map] at q3
  have hll : l.length ≤ 1048577 := by omega
  have hlm : l.length ≤ maxLen := by unfold maxLen; omega
  have hRl : R.length ≤ 1048577 := by omega
  have hRm : R.length ≤ maxLen := by unfold maxLen; omega
  have hTm : tot R ≤ 2000000 := by omega
  have HT3 : Hid (tot (rs.map (·.l)) ≤ 1048576) := by have := z3; exact (by omega : tot (rs.map (·.l)) ≤ 1048576)
  clear hsz hr c0 c1 c2 c3 hl hRR htot hbw z3 q1 q2 q3
  go_wp2_with (go_at_call 28; fail)
  refine ht2.mono ?_
  rintro e w2 ⟨g2, h2, k2, rfl, m2, _, _, re2, rb2, hb2⟩
  have l2 : k2.length = rs.length := by have := congrArg List.length m2; simpa using this
  have hsp := scl.spec_crash ys k2 g2 ys.length h2 rs.length lg sf kp w2 (hF.out.of m2) hlg2 re2.row (OR.vr (by rw [l2]; exact rb2)) (fun r hr => by obtain ⟨i, hi⟩ := List.getElem?_of_mem hr; obtain ⟨h', e, _⟩ := rb2.own i r hi; exact ⟨h', e⟩)
  simp only [m2, l2, (HL.out ()), (HRR.out ()), (HLA.out ()), (HZF.out ())] at hsp
  have hB2 : Below W.heap.size W w2 := hb1.trans (hb2.mono hb1.size)
  clear ht2 d0 d1 d2 d3 re2 rb2 m2 l2
  go_wp2_with (go_at_call 19; fail)
  refine hsp.mono ?_
  rintro e w3 ⟨sa, ce, sb, cb, k0, rfl, hm0, hse, hsm, hb3⟩
  have hB3 : Below W.heap.size W w3 := hB2.trans (hb3.mono hB2.size)
  have hal3 : Below w3.heap.size w3 (w3.alloc (.cells #[.slice sa l.length ce, .slice sb R.length cb, .string la, .int .i64 zf] 29)) := (Below.refl _ _).alloc (Nat.le_refl _) _
  have hBW : Below W.heap.size W (w3.alloc (.cells #[.slice sa l.length ce, .slice sb R.length cb, .string la, .int .i64 zf] 29)) := hB3.trans (hal3.mono hB3.size)
  have hBase : Base (w3.alloc (.cells #[.slice sa l.length ce, .slice sb R.length cb, .string la, .int .i64 zf] 29)) w.heap.size w3.heap.size ys rs ya ra yc rc lg sf la zf l R k0 sa sb ce cb :=
    ⟨bstay HA.out hBW hlt, bnew w3 _ _, HSE.out.inn hBW, HSB.out.inn hBW, hse.inn hal3, hsm.inn hal3, hm0⟩
  obtain ⟨W3, hW3⟩ : ∃ W3, w3.alloc (.cells #[.slice sa l.length ce, .slice sb R.length cb, .string la, .int .i64 zf] 29) = W3 := ⟨_, rfl⟩
  rw [hW3] at hBW hBase
  have HBS : Hid (Base W3 w.heap.size w3.heap.size ys rs ya ra yc rc lg sf la zf l R k0 sa sb ce cb) := hBase
  have hlt3 : w.heap.size < W3.heap.size := Nat.lt_of_lt_of_le hlt hBW.size
  have hlt6 : w3.heap.size < W3.heap.size := (Array.getElem?_eq_some_iff.1 hBase.out).1
  have hbw3 : Below w.heap.size w W3 := hb.trans (hBW.mono hb.size)
  have BON : Hid (∀ w', Below W3.heap.size W3 w' → Base w' w.heap.size w3.heap.size ys rs ya ra yc rc lg sf la zf l R k0 sa sb ce cb) := fun w' h => ⟨bstay HBS.out.bx h hlt3, bstay HBS.out.out h hlt6, HBS.out.ae.inn h, HBS.out.ab.inn h, HBS.out.se.inn h, HBS.out.sm.inn h, HBS.out.mm⟩
  obtain ⟨d0, d1, d2, d3⟩ := two HBS.out.bx
  have ht4 := sto.to_store ys rs ya ra yc rc lg sf W3 hF.out HBS.out.ae HBS.out.ab
  clear hsp hse hsm hm0 hBase hb1 hb2 hb3 hB2 hB3 hal3 hBW HSE HSB HA
  go_wp2_with (go_at_call 28; fail)
  clear hW3
  refine ht4.mono ?_
  rintro e w4 ⟨g4, h4, k4, rfl, m4, hg4, hgh4, re4, rb4, hb4⟩
  have l4 : k4.length = rs.length := by have := congrArg List.length m4; simpa using this
  have ta4 : TA w4 W3.heap.size (some ⟨g4, 0, none⟩) (some ⟨h4, 0, none⟩) ys k4 := of_own_runs re4 (by rw [l4]; exact rb4) hg4 (by omega) (by omega) (fun i r hr e => by
    obtain ⟨h', e', _, hB', _⟩ := rb4.own i r hr
    rw [e] at e'
    have := congrArg Addr.block (Option.some.inj e')
    simp only at this
    omega)
  have hal4 : Below w4.heap.size w4 (w4.alloc (.cells #[.slice (some ⟨g4, 0, none⟩) ys.length ys.length, .slice (some ⟨h4, 0, none⟩) rs.length rs.length, .string lg, .int .i64 sf] 29)) := (Below.refl _ _).alloc (Nat.le_refl _) _
  have hx7 := bnew w4 #[.slice (some ⟨g4, 0, none⟩) ys.length ys.length, .slice (some ⟨h4, 0, none⟩) rs.length rs.length, .string lg, .int .i64 sf] 29
  have ta4' := ta4.on hal4
  obtain ⟨W4, hW4⟩ : ∃ W4, w4.alloc (.cells #[.slice (some ⟨g4, 0, none⟩) ys.length ys.length, .slice (some ⟨h4, 0, none⟩) rs.length rs.length, .string lg, .int .i64 sf] 29) = W4 := ⟨_, rfl⟩
  have hW4s : w4.heap.size < W4.heap.size := by rw [← hW4]; simp
  rw [hW4] at hal4 hx7 ta4'
  have hB4 : Below W3.heap.size W3 W4 := hb4.trans (hal4.mono hb4.size)
  have him := scl.impl_crash ys k4 (some ⟨g4, 0, none⟩) (some ⟨h4, 0, none⟩) ys.length rs.length lg sf kp W4 (hF.out.of m4) hlg2 ta4'.rows.1 ta4'.rows.2 (HTB.out.on (hbw3.trans (hB4.mono hbw3.size)))
  simp only [m4, l4, (HL.out ()), (HRR.out ()), (HLA.out ()), (HZF.out ())] at him
  obtain ⟨x0, x1, x2, x3⟩ := two hx7
  have HX7 : Hid (W4.heap[w4.heap.size]? = some (.cells #[.slice (some ⟨g4, 0, none⟩) ys.length ys.length, .slice (some ⟨h4, 0, none⟩) rs.length rs.length, .string lg, .int .i64 sf] 29 (0, 0))) := hx7
  have HT4 : Hid (TA W4 W3.heap.size (some ⟨g4, 0, none⟩) (some ⟨h4, 0, none⟩) ys k4) := ta4'
  have HM4 : Hid (k4.map (·.l) = rs.map (·.l)) := m4
  clear ht4 d0 d1 d2 d3 re4 rb4 ta4 ta4' hx7 hal4 m4 l4
  go_wp2_with (go_at_call 18; fail)
  clear hW4
  refine him.mono ?_
  rintro e w5 ⟨fa, c5, ga, d5, k5, rfl, m5, ta5, hb5⟩
  have hal5 : Below w5.heap.size w5 (w5.alloc (.cells #[.slice fa l.length c5, .slice ga R.length d5, .string la, .int .i64 zf] 29)) := (Below.refl _ _).alloc (Nat.le_refl _) _
  have hx8 := bnew w5 #[.slice fa l.length c5, .slice ga R.length d5, .string la, .int .i64 zf] 29
  have ta5' := ta5.on hal5
  obtain ⟨W5, hW5⟩ : ∃ W5, w5.alloc (.cells #[.slice fa l.length c5, .slice ga R.length d5, .string la, .int .i64 zf] 29) = W5 := ⟨_, rfl⟩
  have hW5s : w5.heap.size < W5.heap.size := by rw [← hW5]; simp
  rw [hW5] at hal5 hx8 ta5'
  have hB45 : Below W4.heap.size W4 W5 := hb5.trans (hal5.mono hb5.size)
  have hs45 := hB45.size
  have hs34 := hB4.size
  have hB5 : Below W3.heap.size W3 W5 := hB4.trans (hB45.mono hs34)
  have HM5 : Hid (k5.map (·.l) = R) := m5
  have heq5 := eq_ans (la := la) (zf := zf) hlm hRm hTm (c5 := c5) (d5 := d5) (ce := ce) (cb := cb) HM5.out (BON.out W5 hB5).mm ta5'.rows.1 (BON.out W5 hB5).se ta5'.rows.2 (BON.out W5 hB5).sm
  obtain ⟨x0, x1, x2, x3⟩ := two hx8
  obtain ⟨o0, o1, o2, o3⟩ := two (BON.out W5 hB5).out
  have HX8 : Hid (W5.heap[w5.heap.size]? = some (.cells #[.slice fa l.length c5, .slice ga R.length d5, .string la, .int .i64 zf] 29 (0, 0))) := hx8
  have HT5 : Hid (TA W5 W4.heap.size fa ga l k5) := ta5'
  have hs5w := hb5.size
  clear him ta5 ta5' hx8 hal5 m5
  go_wp2_with (go_at_call 29; fail)
  clear hW5
  refine heq5.mono ?_
  rintro e w6 ⟨rfl, hb6⟩
  have hs6 := hb6.size
  have hB6 : Below W3.heap.size W3 w6 := hB5.trans (hb6.mono hB5.size)
  have hB46 : Below W4.heap.size W4 w6 := hB45.trans (hb6.mono hs45)
  obtain ⟨d0, d1, d2, d3⟩ := two (BON.out w6 hB6).bx
  have x7 := bstay HX7.out hB46 hW4s
  obtain ⟨y0, y1, y2, y3⟩ := two x7
  have HY6 : Hid (w6.heap[w4.heap.size]? = some (.cells #[.slice (some ⟨g4, 0, none⟩) ys.length ys.length, .slice (some ⟨h4, 0, none⟩) rs.length rs.length, .string lg, .int .i64 sf] 29 (0, 0))) := x7
  have HT46 : Hid (TA w6 W3.heap.size (some ⟨g4, 0, none⟩) (some ⟨h4, 0, none⟩) ys k4) := HT4.out.on hB46
  have hn7 : w4.heap.size < w6.heap.size := by omega
  have ht7 := sto.to_store ys rs ya ra yc rc lg sf w6.drew hF.out ((BON.out w6 hB6).ae.inn (Below.refl _ w6).drew) ((BON.out w6 hB6).ab.inn (Below.refl _ w6).drew)
  clear heq5 x0 x1 x2 x3 o0 o1 o2 o3 x7
  go_wp2
  go_region_with (first | (go_at_call 28; refine ht7.mono ?_; rintro e w7 ⟨g7, h7, k7, rfl, m7, _, _, re7, rb7, hb7⟩; obtain ⟨hb7', q70, q71, q72, q73, heq⟩ := sto.step6 hF.out HM4.out m7 hb7 hn7 HY6.out HT46.out.rows.1 HT46.out.rows.2 re7 rb7; clear re7 rb7 m7) | (go_at_call 29; refine heq.mono ?_; rintro e w8 ⟨rfl, hb8⟩))
  all_goals
    have hb68 : Below w6.heap.size w6 w8 := hb7'.trans (hb8.mono hb7'.size)
    have hB8 : Below W3.heap.size W3 w8 := hB6.trans (hb68.mono hB6.size)
    have hB58 : Below W5.heap.size W5 w8 := hb6.trans (hb68.mono hs6)
    have hs8 := hB58.size
    obtain ⟨y0, y1, y2, y3⟩ := two (bstay HY6.out hb68 hn7)
    have hmk := stm.mark_ans (lg := lg) (sf := sf) (R := rs.map (·.l)) (c5 := ys.length) (d5 := rs.length) (by omega) (by rw [List.length_map]; omega) (by have := HT3.out; omega) HM4.out (HT46.out.on hb68)
    rw [List.length_map] at hmk
    have HX88 : Hid (w8.heap[w5.heap.size]? = some (.cells #[.slice fa l.length c5, .slice ga R.length d5, .string la, .int .i64 zf] 29 (0, 0))) := bstay HX8.out hB58 hW5s
    have HT58 : Hid (TA w8 W4.heap.size fa ga l k5) := HT5.out.on hB58
    have HBD : Hid (∀ k, own (some ⟨g4, 0, none⟩) ys k4 k → W3.heap.size ≤ k ∧ k < W4.heap.size) := fun k hk => HT4.out.bound hk
    clear hb7' hb7 hb8 ht7 heq q70 q71 q72 q73 d0 d1 d2 d3 hb68 hb6 HY6 HT46 hB6 hB46 hB5 hB45 hb5 hb4 hB4
    go_wp2_with (go_at_call 30; fail)
    refine hmk.mono ?_
    rintro e w9 ⟨rfl, htn, _⟩
    have hs9 := htn.size
    obtain ⟨kk, hkk⟩ : ∃ kk : Nat, 1 + 3 * ys.length + 3 * tot (rs.map (·.l)) = kk := ⟨_, rfl⟩
    rw [hkk]
    have hk0 : decide ((kk : Int) < 0) = false := by simp
    have hB9 : Below W3.heap.size W3 w9 := hB8.trans (htn.below hB8.size (fun k hk => (HBD.out k hk).1))
    have b9 : w9.heap[w5.heap.size]? = some (.cells #[.slice fa l.length c5, .slice ga R.length d5, .string la, .int .i64 zf] 29 (0, 0)) := (htn.block _ (by omega) (fun hk => by have := (HBD.out _ hk).2; omega)).trans HX88.out
    have ta9 : TA w9 W4.heap.size fa ga l k5 := HT58.out.turn htn (fun k hk => (HBD.out k hk).2)
    have heq9 := eq_ans (la := la) (zf := zf) hlm hRm hTm (c5 := c5) (d5 := d5) (ce := ce) (cb := cb) HM5.out (BON.out w9 hB9).mm ta9.rows.1 (BON.out w9 hB9).se ta9.rows.2 (BON.out w9 hB9).sm
    obtain ⟨x0, x1, x2, x3⟩ := two b9
    obtain ⟨o0, o1, o2, o3⟩ := two (BON.out w9 hB9).out
    have HX9 : Hid (w9.heap[w5.heap.size]? = some (.cells #[.slice fa l.length c5, .slice ga R.length d5, .string la, .int .i64 zf] 29 (0, 0))) := b9
    have HT9 : Hid (TA w9 W4.heap.size fa ga l k5) := ta9
    have hlt9 : w5.heap.size < w9.heap.size := by omega
    clear hkk hmk y0 y1 y2 y3 b9 ta9 htn HX88 HT58 hB8 hB58
    go_wp2_with (go_at_call 29; fail)
    refine heq9.mono ?_
    rintro e w10 ⟨rfl, hb10⟩
    have hB10 : Below W3.heap.size W3 w10 := hB9.trans (hb10.mono hB9.size)
    have hs10 := hb10.size
    have b10 := bstay HX9.out hb10 hlt9
    obtain ⟨p0, p1, p2, p3⟩ := two b10
    have HX10 : Hid (w10.heap[w5.heap.size]? = some (.cells #[.slice fa l.length c5, .slice ga R.length d5, .string la, .int .i64 zf] 29 (0, 0))) := b10
    have HT10 : Hid (TA w10 W4.heap.size fa ga l k5) := HT9.out.on hb10
    have hmk := stm.mark_ans (lg := la) (sf := zf) (c5 := c5) (d5 := d5) (by omega) (by omega) hTm HM5.out HT10.out
    have HB5 : Hid (∀ k, own fa l k5 k → W4.heap.size ≤ k ∧ k < W5.heap.size ∧ k ≠ w5.heap.size) := fun k hk => ⟨(HT5.out.bound hk).1, (HT5.out.bound hk).2, fun e => by
      subst e
      have key : ∀ a (m : List flP.Pr), MP W5 W4.heap.size a m → ¬ blk a m w5.heap.size := fun a m hm hb => by
        rcases hm with hm | ⟨g, o, e, _, ho⟩
        · exact hb.1 hm
        · obtain ⟨_, g', o', e', rfl⟩ := hb
          rw [e] at e'
          have := congrArg Addr.block (Option.some.inj e')
          simp only at this
          obtain ⟨cu, hcu, _⟩ := ho
          rw [this, HX8.out] at hcu
          simp at hcu
      rcases hk with hk | ⟨r, hr, hk⟩
      · exact key _ _ HT5.out.mt.fresh hk
      · exact key _ _ (HT5.out.mt.runs r hr) hk⟩
    clear heq9 x0 x1 x2 x3 o0 o1 o2 o3 b10 hb10 HX9 HT9 hB9
    go_wp2_with (go_at_call 30; fail)
    refine hmk.mono ?_
    rintro e w11 ⟨rfl, htn, kt11⟩
    have hs11 := htn.size
    have hB11 : Below W3.heap.size W3 w11 := hB10.trans (htn.below hB10.size (fun k hk => by have := (HB5.out k hk).1; omega))
    have b11 : w11.heap[w5.heap.size]? = some (.cells #[.slice fa l.length c5, .slice ga R.length d5, .string la, .int .i64 zf] 29 (0, 0)) := (htn.block _ (by omega) (fun hk => (HB5.out _ hk).2.2 rfl)).trans HX10.out
    have hhd := stm.held_ans (lg := la) (sf := zf) (c5 := c5) (d5 := d5) (by omega) (by omega) hTm HM5.out kt11
    have HK11 : Hid (KT w11 W4.heap.size fa ga l.length k5) := kt11
    obtain ⟨mm, hmm⟩ : ∃ mm : Nat, 1 + 3 * l.length + 3 * tot R = mm := ⟨_, rfl⟩
    rw [hmm] at hhd ⊢
    have HMM : Hid (1 + 3 * l.length + 3 * tot R = mm) := hmm
    have hm0 : decide ((mm : Int) < 0) = false := by simp
    obtain ⟨x0, x1, x2, x3⟩ := two b11
    have HX11 : Hid (w11.heap[w5.heap.size]? = some (.cells #[.slice fa l.length c5, .slice ga R.length d5, .string la, .int .i64 zf] 29 (0, 0))) := b11
    have hlt11 : w5.heap.size < w11.heap.size := by omega
    clear hmk p0 p1 p2 p3 b11 kt11 htn hmm HX10 hB10
    go_wp2_with (go_at_call 31; fail)
    refine hhd.mono ?_
    rintro e w12 ⟨rfl, hb12⟩
    have hs12 := hb12.size
    have hB12 : Below W3.heap.size W3 w12 := hB11.trans (hb12.mono hB11.size)
    obtain ⟨d0, d1, d2, d3⟩ := two (BON.out w12 hB12).bx
    have ht13 := sto.to_store ys rs ya ra yc rc lg sf w12 hF.out (BON.out w12 hB12).ae (BON.out w12 hB12).ab
    clear hhd x0 x1 x2 x3
    go_wp2_with (go_at_call 28; fail)
    refine ht13.mono ?_
    rintro e w13 ⟨g13, h13, k13, rfl, m13, _, _, re13, rb13, hb13⟩
    have l13 : k13.length = rs.length := by have := congrArg List.length m13; simpa using this
    have him := scl.impl_crash ys k13 (some ⟨g13, 0, none⟩) (some ⟨h13, 0, none⟩) ys.length rs.length lg sf kp w13 (hF.out.of m13) hlg2 re13.row (OR.vr (by rw [l13]; exact rb13)) (((HTB.out.on hbw3).on hB12).on hb13)
    simp only [m13, l13, (HL.out ()), (HRR.out ()), (HLA.out ()), (HZF.out ())] at him
    have hB13 : Below w11.heap.size w11 w13 := hb12.trans (hb13.mono hs12)
    clear ht13 d0 d1 d2 d3 re13 rb13 hb13 hb12 hB12 m13 l13
    go_wp2_with (go_at_call 18; fail)
    refine him.mono ?_
    rintro e w14 ⟨fx, cx, gx, dx, kx, rfl, mx, ta14, hb14⟩
    have hal14 : Below w14.heap.size w14 (w14.alloc (.cells #[.slice fx l.length cx, .slice gx R.length dx, .string la, .int .i64 zf] 29)) := (Below.refl _ _).alloc (Nat.le_refl _) _
    have hx12 := bnew w14 #[.slice fx l.length cx, .slice gx R.length dx, .string la, .int .i64 zf] 29
    have ta14' := ta14.on hal14
    obtain ⟨W14, hW14⟩ : ∃ W14, w14.alloc (.cells #[.slice fx l.length cx, .slice gx R.length dx, .string la, .int .i64 zf] 29) = W14 := ⟨_, rfl⟩
    rw [hW14] at hal14 hx12 ta14'
    have hB14 : Below w11.heap.size w11 W14 := (hB13.trans (hb14.mono hB13.size)).trans (hal14.mono (by have := hb14.size; have := hB13.size; omega))
    have hB314 : Below W3.heap.size W3 W14 := hB11.trans (hB14.mono hB11.size)
    have heq14 := eq_ans (la := la) (zf := zf) hlm hRm hTm (c5 := cx) (d5 := dx) (ce := ce) (cb := cb) mx (BON.out W14 hB314).mm ta14'.rows.1 (BON.out W14 hB314).se ta14'.rows.2 (BON.out W14 hB314).sm
    obtain ⟨x0, x1, x2, x3⟩ := two hx12
    obtain ⟨o0, o1, o2, o3⟩ := two (BON.out W14 hB314).out
    clear him ta14 ta14' hx12 hal14 hb14 hB13 mx
    go_wp2_with (go_at_call 29; fail)
    clear hW14
    refine heq14.mono ?_
    rintro e w15 ⟨rfl, hb15⟩
    have hB15 : Below w11.heap.size w11 w15 := hB14.trans (hb15.mono hB14.size)
    obtain ⟨p0, p1, p2, p3⟩ := two (bstay HX11.out hB15 hlt11)
    have hhd := stm.held_ans (lg := la) (sf := zf) (c5 := c5) (d5 := d5) (by omega) (by omega) hTm HM5.out (HK11.out.on hB15)
    rw [HMM.out] at hhd
    clear heq14 x0 x1 x2 x3 o0 o1 o2 o3
    go_wp2_with (go_at_call 31; fail)
    refine hhd.mono ?_
    rintro e w16 ⟨rfl, hb16⟩
    have hB16 : Below w11.heap.size w11 w16 := hB15.trans (hb16.mono hB15.size)
    have hfin : Below w.heap.size w w16 := hbw3.trans ((hB11.trans (hB16.mono hB11.size)).mono hbw3.size)
    clear hhd p0 p1 p2 p3
    go_wp2
    go_ret
    exact ⟨rfl, hfin⟩
end Go.Proofs.YtlgcciaebkfnjaaGreatDoor.lwStoreCrash

/- A list of structures that comes in as an argument, opened: as it lies in memory. -/
namespace Go.Proofs.YtlgcciaebkfnjaaGreatDoor.fl
open Go.ChangeShapes Go.WideShapes Go.ChangeAt Go.RowKit
set_option linter.unusedVariables false

theorem add_at {b off : Nat} (i : Nat) : (⟨b, off, none⟩ : Addr).add i = ⟨b, off + i, none⟩ := by unfold Addr.add; split <;> simp_all

theorem row_of {α : Type} {c : α → List Value} {n : Nat} {W : World} {a : Addr} {l : List α} (hn : ∀ e, (c e).length = n) (h0 : 0 < n) (hc : ∀ (i : Nat) (e : α), l[i]? = some e → ∀ (j : Nat) (v : Value), (c e)[j]? = some v → W.cell? (a.add (i * n + j)) = some v) : Row c n W W.heap.size (some a) l := by
  cases l with
  | nil => exact .inl rfl
  | cons y r =>
    obtain ⟨b, off, spot⟩ := a
    have hy : 0 < (c y).length := by rw [hn]; exact h0
    have h0 := hc 0 y rfl 0 _ (List.getElem?_eq_getElem hy)
    have hspot : spot = none := by simpa [Addr.add] using World.cell?_spot h0
    subst hspot
    refine .inr ⟨b, off, rfl, by have := block_lt_of_cell h0; rw [add_at] at this; exact this, fun i x hx j v hv => ?_⟩
    have h := hc i x hx j v hv
    rw [add_at, ← Nat.add_assoc] at h
    exact h

section
variable {H : Type} {enc : TypeId × Value → H}
theorem open_row {α : Type} [Inhabited α] {c : α → List Value} {n : Nat} {ok : α → Prop} {P : Program} {W : World} {held : Bool} {fuel : Nat} {t e : TypeId} {v : Value} {y : DataW H × List MemPlace} (hn : ∀ e, (c e).length = n) (h0 : 0 < n)
    (ht : P.underlying t = some (.slice e)) (ce : P.cellsOf e = n)
    (hel : ∀ (cs : List Value) (k : Nat) (x : DataW H × List MemPlace), DataW.trod enc P W 0 (fun _ => true) held k e cs = some x → ∃ a, cs = c a ∧ ok a)
    (h : DataW.trod enc P W 0 (fun _ => true) held fuel t [v] = some y) :
    ∃ (a : Option Addr) (l : List α) (cap : Nat), v = .slice a l.length cap ∧ l.length ≤ maxLen ∧ (∀ e ∈ l, ok e) ∧ Row c n W W.heap.size a l := by
  rcases Deep.open_slice ht h with ⟨hcs, _⟩ | ⟨a, len, cap, m, k, D, Pl, hcs, hb, hl, hm, hmm, _, hx⟩
  · simp at hcs
    exact ⟨none, [], 0, hcs, by simp, by simp, .inl rfl⟩
  · simp at hcs hmm
    have each : ∀ i, i < len → ∃ x : α, ok x ∧ ∀ (j : Nat) (v : Value), (c x)[j]? = some v → W.cell? (a.add (i * n + j)) = some v := fun i hi => by
      obtain ⟨cs', h1, h2⟩ := hx i (by omega)
      rw [ce] at h1
      obtain ⟨_, hlen, hcell⟩ := World.cells?_some h1
      obtain ⟨x, rfl, hok⟩ := hel cs' k _ h2
      refine ⟨x, hok, fun j v hv => ?_⟩
      have hj := (List.getElem?_eq_some_iff.1 hv).1
      have hh := hcell j (by rw [hn] at hj; exact hj)
      rw [Deep.add_add] at hh
      rw [hh]
      simpa using hv
    obtain ⟨E, hE⟩ := Deep.choose_lt each
    refine ⟨some a, (List.range len).map E, cap, by simpa using hcs, by simp; omega, ?_, row_of hn h0 fun i x hi => ?_⟩
    · intro x hxm
      obtain ⟨i, hi, rfl⟩ := List.mem_map.1 hxm
      exact (hE i (List.mem_range.1 hi)).1
    · have hlt := (List.getElem?_eq_some_iff.1 hi).1
      simp at hlt
      have he := (List.getElem?_eq_some_iff.1 hi).2
      simp at he
      subst he
      exact (hE i hlt).2
end
end Go.Proofs.YtlgcciaebkfnjaaGreatDoor.fl
