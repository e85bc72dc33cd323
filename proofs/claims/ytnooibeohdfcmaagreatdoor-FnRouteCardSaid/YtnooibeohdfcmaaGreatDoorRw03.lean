/- A binding put among ascending bindings: their order, where it goes, the list behind it, and what Bind answers. -/
import Derived.Test.YtnooibeohdfcmaaGreatDoorRw01
import Derived.Laws.OwnMore
import Derived.Test.YtnooibeohdfcmaaGreatDoorRw02
import Derived.Test.YtnooibeohdfcmaaGreatDoorRouteOrder

/- The first and the last append of ThreeApp where what is appended is nothing at all. -/
namespace Go.Proofs.YtnooibeohdfcmaaGreatDoor.tan
open Go.ChangeShapes Go.WideShapes Go.ChangeAt Go.RowKit Go.Proofs.YtnooibeohdfcmaaGreatDoor.fl Go.Proofs.YtnooibeohdfcmaaGreatDoor.ta
set_option linter.unusedVariables false

variable {p : Pr} {x : J} {ws : G → List (Nat × Value)} {act : Act} {Q : Exit → Act → World → Prop} {o : Oper}
theorem app_run {ST s1 s2 : Nat} {v v' u : Value} {f : Act} {W w' : World} (hop : o.op = .call { callee := .builtin .append, args := #[.tmp s1, .tmp s2], argTypes := #[ST, ST] }) (e1 : f.eval (.tmp s1) = v) (e2 : f.eval (.tmp s2) = u) (hr : (Builtin.append_ #[ST, ST] o.type #[v, u]).run Tryz.prog W = .ok v' w') : (execOp f.eval o).run Tryz.prog W = .ok (.value v') w' := by
  unfold execOp
  simp only [hop, resolve, invoke, builtin, Sem.run_bind, Sem.run_pure, Result.andThen_ok, List.map_toArray, List.map_cons, List.map_nil, e1, e2, hr]
theorem grown_self (w : World) (r : Option Nat) : w.grownBy w r := ⟨rfl, rfl, rfl, Nat.le_refl _, fun _ _ _ => rfl⟩
variable {ST : TypeId} {i0 : TypeInfo} {z : Value}
theorem st1 (hx : x.up) (ht : Tryz.prog.underlying ST = some (.slice p.T)) (hi : Tryz.prog.info? p.T = some i0)
    {s1 s2 d idx : Nat} (hop : o.op = .call { callee := .builtin .append, args := #[.tmp s1, .tmp s2], argTypes := #[ST, ST] }) (hdst : o.dst = some d) (hsz : d < act.tmps.size ∧ s1 < act.tmps.size ∧ s2 < act.tmps.size)
    (ld : ∀ g, (ws g).lookup d = some g.v1) (l1 : ∀ g, (ws g).lookup s1 = some (.slice (some ⟨g.e0, 0, none⟩) 0 0)) (l2 : ∀ g, (ws g).lookup s2 = some (.slice none p.k 0)) (hidx : ∀ g, ((ws g)[idx]?.map (·.1)) = some d) (hset : ∀ g (v : Value), ws { g with v1 := v } = (ws g).set idx (d, v))
    (hk : p.k = 0) (hxs : p.xs = [])
    (hdep : ∃ e ∈ o.after, Region.binds .any e = true ∧ e.on = x.j0) : gh.Step Tryz.prog (fun s => dk.sets act (ws s)) (C p x) Q x.j1 o := by
  refine gh.step_val (by rw [hop]; simp) fun s L W hdp h0 hC => ?_
  obtain ⟨xp, mp, yp, zp⟩ := hdep
  have lp := hdp xp mp yp
  rw [zp] at lp
  obtain ⟨u0, u1, u2, u3, u4⟩ := hx
  have hd := hC.d
  rw [h0] at hd
  have hold := hd.at0 lp rfl
  have hr := run_append_owned_none (P := Tryz.prog) (w := W) p.W0.heap.size ST o.type p.T i0 p.n ht hi _ 0 [] hold
  refine ⟨{ s with v1 := .slice (some ⟨s.e0, 0, none⟩) 0 0 }, .slice (some ⟨s.e0, 0, none⟩) 0 0, dk.agree_sets idx d _ hdst (hidx s) (hset s _), (fun d' hd => by rw [hdst] at hd; cases hd; exact dk.sets_on _ hsz.1 _ (ld _)), ?_⟩
  rw [app_run hop (dk.eval_on _ _ hsz.2.1 (l1 s)) (dk.eval_on _ _ hsz.2.2 (l2 s)) (by rw [hk]; exact hr)]
  refine ⟨rfl, ?_⟩
  unfold C
  rw [more_on, more_off L (show x.j0 ≠ x.j1 by omega), more_off L (show x.j2 ≠ x.j1 by omega), more_off L (show x.j3 ≠ x.j1 by omega), more_off L (show x.j4 ≠ x.j1 by omega), more_off L (show x.j5 ≠ x.j1 by omega)]
  exact hd.s1 lp (grown_self _ _) (by rw [hk, hxs]; exact hold) (.inl rfl)
theorem st4 (hx : x.up) (ht : Tryz.prog.underlying ST = some (.slice p.T)) (hi : Tryz.prog.info? p.T = some i0)
    {s1 s2 d idx : Nat} (hop : o.op = .call { callee := .builtin .append, args := #[.tmp s1, .tmp s2], argTypes := #[ST, ST] }) (hdst : o.dst = some d) (hsz : d < act.tmps.size ∧ s1 < act.tmps.size ∧ s2 < act.tmps.size)
    (ld : ∀ g, (ws g).lookup d = some g.v3) (l1 : ∀ g, (ws g).lookup s1 = some g.v2) (l2 : ∀ g, (ws g).lookup s2 = some (.slice none p.m 0)) (hidx : ∀ g, ((ws g)[idx]?.map (·.1)) = some d) (hset : ∀ g (v : Value), ws { g with v3 := v } = (ws g).set idx (d, v))
    (hm : p.m = 0) (hys : p.ys = [])
    (hdep : ∃ e ∈ o.after, Region.binds .any e = true ∧ e.on = x.j3) : gh.Step Tryz.prog (fun s => dk.sets act (ws s)) (C p x) Q x.j4 o := by
  refine gh.step_val (by rw [hop]; simp) fun s L W hdp h0 hC => ?_
  obtain ⟨xp, mp, yp, zp⟩ := hdep
  have lp := hdp xp mp yp
  rw [zp] at lp
  obtain ⟨u0, u1, u2, u3, u4⟩ := hx
  have hd := hC.d
  rw [h0] at hd
  have hold := (hd.at3 lp).2.2 rfl
  have hr := run_append_owned_none (P := Tryz.prog) (w := W) p.W0.heap.size ST o.type p.T i0 p.n ht hi _ (p.k + 1) (p.xs ++ p.ms) hold
  refine ⟨{ s with v3 := s.v2 }, s.v2, dk.agree_sets idx d _ hdst (hidx s) (hset s _), (fun d' hd => by rw [hdst] at hd; cases hd; exact dk.sets_on _ hsz.1 _ (ld _)), ?_⟩
  rw [app_run hop (dk.eval_on _ _ hsz.2.1 (l1 s)) (dk.eval_on _ _ hsz.2.2 (l2 s)) (by rw [hm]; exact hr)]
  refine ⟨rfl, ?_⟩
  unfold C
  rw [more_on, more_off L (show x.j0 ≠ x.j4 by omega), more_off L (show x.j1 ≠ x.j4 by omega), more_off L (show x.j2 ≠ x.j4 by omega), more_off L (show x.j3 ≠ x.j4 by omega), more_off L (show x.j5 ≠ x.j4 by omega)]
  exact hd.s4 lp (grown_self _ _) (by rw [hm, hys, List.append_nil]; exact hold)
end Go.Proofs.YtnooibeohdfcmaaGreatDoor.tan

/- The specification's Declare where the list that grows is nothing at all. -/
namespace Go.Proofs.YtnooibeohdfcmaaGreatDoor.dsp
open Go.ChangeShapes Go.WideShapes Go.ChangeAt Go.RowKit Go.Proofs.YtnooibeohdfcmaaGreatDoor.rc Go.Proofs.YtnooibeohdfcmaaGreatDoor.rr Go.Proofs.YtnooibeohdfcmaaGreatDoor.ra Go.Proofs.YtnooibeohdfcmaaGreatDoor.rt Go.Proofs.YtnooibeohdfcmaaGreatDoor.rs Go.Proofs.YtnooibeohdfcmaaGreatDoor.ro Go.Proofs.YtnooibeohdfcmaaGreatDoor.fl Go.Proofs.YtnooibeohdfcmaaGreatDoor.su Go.Proofs.YtnooibeohdfcmaaGreatDoor.dp Go.Proofs.YtnooibeohdfcmaaGreatDoor.rwy
set_option linter.unusedVariables false

def wsN (s n n8 k : Nat) (nn : ByteArray) (kd : Int) (g : ta.G) : List (Nat × Value) := [(53, .slice (some ⟨g.e0, 0, none⟩) 0 0), (54, .pointer (some ⟨s, 0, none⟩)), (55, .slice none n 0), (56, .int .i64 k), (57, .slice none k 0), (58, g.v1), (59, .string nn), (60, .int .i64 kd), (61, .agg #[.string nn, .int .i64 kd]), (62, .slice (some ⟨g.h, 0, none⟩) 1 1), (63, g.v2), (64, .pointer (some ⟨s, 0, none⟩)), (65, .slice none n 0), (66, .int .i64 k), (67, .slice none (n - k) 0), (68, g.v3), (69, .pointer (some ⟨n8, 0, none⟩))]
set_option maxRecDepth 100000 in
set_option maxHeartbeats 4000000 in
theorem spec_declareN (es : List Ex) (bs : List Bi) (b0 : Option Addr) (bc ka kb : Nat) (nn : ByteArray) (kd : Int) (w : World) (hel : es.length ≤ 1048576) (hbl : bs.length ≤ 1048576) (hes : ∀ e ∈ es, e.n.size ≤ 1048576) (hbs : ∀ b ∈ bs, b.x.size ≤ 1048576 ∧ b.k.size ≤ 1048576 ∧ b.q.size ≤ 1048576) (hnm : nn.size ≤ 1048576) (hE : RE w ka es) (hB : RB w kb bs) (hnil : Hid (es.length = 0)) (hnb : Hid (apa.NQ b0 ⟨kb, 0, none⟩ bs.length bc)) :
    Calls Tryz.prog 13 #[.agg #[.slice none es.length 0, .slice b0 bs.length bc], .string nn, .int .i64 kd] w fun r w' => ∃ ea ba ce cb, r = .returned (.tuple #[.agg #[.slice ea (ansD es bs nn kd).length ce, .slice ba bs.length cb], .bool (retD es bs nn kd)]) ∧ OA w' (w.heap.size + 2) ea ce (ansD es bs nn kd) ∧ OC w' (w.heap.size + 2) ba cb bs ∧ Below w.heap.size w w' := by
  have hWb := first_below w es bs none b0 0 bc
  have hW2 := first2 w es bs none b0 0 bc
  have hcopy := sc.spec_copy es bs none b0 0 bc _ hel hbl (hE.below hWb) (hB.below hWb) (nil_nq _ hnil.out) hnb
  have HE : Hid (RE w ka es) := hE
  have HB : Hid (RB w kb bs) := hB
  have HES : Hid (∀ e ∈ es, e.n.size ≤ 1048576) := hes
  have HBS : Hid (∀ b ∈ bs, b.x.size ≤ 1048576 ∧ b.k.size ≤ 1048576 ∧ b.q.size ≤ 1048576) := hbs
  obtain ⟨AN, hAN⟩ : ∃ AN, ansD es bs nn kd = AN := ⟨_, rfl⟩
  obtain ⟨rt, hrt⟩ : ∃ rt, retD es bs nn kd = rt := ⟨_, rfl⟩
  have HAN : Hid (ansD es bs nn kd = AN) := hAN
  have HRT : Hid (retD es bs nn kd = rt) := hrt
  simp only [hAN, hrt]
  clear hE hB hes hbs hAN hrt hWb
  go_enter Tryz.func13, Tryz.ntmps13
  go_wp2_with (go_at_call 42; fail)
  refine hcopy.mono ?_
  rintro e w1 ⟨g1, c1, h1, c2, rfl, oe1, ob1, hb1⟩
  obtain ⟨hrx, hoe, hob⟩ := first_out w w1 es bs none b0 0 bc g1 c1 h1 c2 hb1 (by rw [hW2]; omega) oe1 ob1
  obtain ⟨X, hX⟩ : ∃ X, w1.alloc (.cells #[.slice (some ⟨g1, 0, none⟩) es.length c1, .slice (some ⟨h1, 0, none⟩) bs.length c2] 27) = X := ⟨_, rfl⟩
  rw [hX] at hrx hoe hob
  have x0 : X.cell? ⟨w.heap.size, 0, none⟩ = some (.slice none es.length 0) := bcell hrx.box rfl
  have x1 : X.cell? ⟨w.heap.size, 1, none⟩ = some (.slice b0 bs.length bc) := bcell hrx.box rfl
  have hokc := rk.spec_routes es bs ka 0 kb bc X hel hbl HES.out HBS.out (HE.out.below hrx.bel) (HB.out.below hrx.bel) none b0 (nil_nq _ hnil.out) hnb
  have RX1 : Hid (RX w es bs none b0 0 bc w1.heap.size (.slice (some ⟨g1, 0, none⟩) es.length c1) (.slice (some ⟨h1, 0, none⟩) bs.length c2) X) := hrx
  have OE1 : Hid (OE w X g1 c1 es) := hoe
  have OB1 : Hid (OB w X h1 c2 bs) := hob
  clear hcopy oe1 ob1 hb1 hrx hoe hob
  go_wp2_with (go_at_call 17; fail)
  clear hX x0 x1
  refine hokc.mono ?_
  rintro e w2 ⟨⟨bo, rfl, hbo⟩, hb2⟩
  have RX2 : Hid (RX w es bs none b0 0 bc w1.heap.size (.slice (some ⟨g1, 0, none⟩) es.length c1) (.slice (some ⟨h1, 0, none⟩) bs.length c2) w2) := RX1.out.on hb2
  have OE2 : Hid (OE w w2 g1 c1 es) := OE1.out.on hb2
  have OB2 : Hid (OB w w2 h1 c2 bs) := OB1.out.on hb2
  clear hokc RX1 OE1 OB1 hb2
  by_cases hok : OkR es bs
  case neg =>
    obtain rfl : bo = false := by
      cases bo with
      | false => rfl
      | true => exact absurd (hbo.1 rfl) hok
    have HA : Hid (es = AN) := (bad hok).1.symm.trans HAN.out
    have HR : Hid (false = rt) := (bad hok).2.symm.trans HRT.out
    clear hbo hok
    have n0 : w2.cell? ⟨w1.heap.size, 0, none⟩ = some (.slice (some ⟨g1, 0, none⟩) es.length c1) := bcell RX2.out.out rfl
    have n1 : w2.cell? ⟨w1.heap.size, 1, none⟩ = some (.slice (some ⟨h1, 0, none⟩) bs.length c2) := bcell RX2.out.out rfl
    have z0 : w2.cell? ⟨w.heap.size + 1, 0, none⟩ = some (.slice none 0 0) := bcell RX2.out.res rfl
    have z1 : w2.cell? ⟨w.heap.size + 1, 1, none⟩ = some (.slice none 0 0) := bcell RX2.out.res rfl
    have z0f := bfree RX2.out.res 0
    have z1f := bfree RX2.out.res 1
    go_wp2
    refine bodyPost_ret (v := .tuple #[.agg #[.slice (some ⟨g1, 0, none⟩) es.length c1, .slice (some ⟨h1, 0, none⟩) bs.length c2], .bool false]) (by simp [results, Tryz.results13, go_sem, z0, z1]) rfl ⟨some ⟨g1, 0, none⟩, some ⟨h1, 0, none⟩, c1, c2, by rw [← HA.out, HR.out], ?_, ?_, ?_⟩
    · rw [← HA.out]; exact fin_E OE2.out
    · exact fin_B OB2.out
    · exact fin_below RX2.out.bel
  case pos =>
    obtain rfl : bo = true := hbo.2 hok
    have HOK : Hid (OkR es bs) := hok
    have hel4 := hok.el
    have hnmc := (nm.spec_name nn w2 hnm)
    clear hbo hok
    cases hg : nm.good nn with
    | false =>
      rw [hg] at hnmc
      have hx : exOk ⟨nn, kd⟩ = false := by unfold exOk; rw [hg]; rfl
      have HA : Hid (es = AN) := (wrong HOK.out hx).1.symm.trans HAN.out
      have HR : Hid (false = rt) := (wrong HOK.out hx).2.symm.trans HRT.out
      go_wp2_with (go_at_call 43; fail)
      refine hnmc.mono ?_
      rintro e w3 ⟨rfl, hw3⟩
      obtain rfl := hw3
      clear hnmc hx hg
      have n0 : w2.cell? ⟨w1.heap.size, 0, none⟩ = some (.slice (some ⟨g1, 0, none⟩) es.length c1) := bcell RX2.out.out rfl
      have n1 : w2.cell? ⟨w1.heap.size, 1, none⟩ = some (.slice (some ⟨h1, 0, none⟩) bs.length c2) := bcell RX2.out.out rfl
      have z0 : w2.cell? ⟨w.heap.size + 1, 0, none⟩ = some (.slice none 0 0) := bcell RX2.out.res rfl
      have z1 : w2.cell? ⟨w.heap.size + 1, 1, none⟩ = some (.slice none 0 0) := bcell RX2.out.res rfl
      have z0f := bfree RX2.out.res 0
      have z1f := bfree RX2.out.res 1
      go_wp2
      refine bodyPost_ret (v := .tuple #[.agg #[.slice (some ⟨g1, 0, none⟩) es.length c1, .slice (some ⟨h1, 0, none⟩) bs.length c2], .bool false]) (by simp [results, Tryz.results13, go_sem, z0, z1]) rfl ⟨some ⟨g1, 0, none⟩, some ⟨h1, 0, none⟩, c1, c2, by rw [← HA.out, HR.out], ?_, ?_, ?_⟩
      · rw [← HA.out]; exact fin_E OE2.out
      · exact fin_B OB2.out
      · exact fin_below RX2.out.bel
    | true =>
      rw [hg] at hnmc
      go_wp2_with (go_at_call 43; fail)
      refine hnmc.mono ?_
      rintro e w3 ⟨rfl, hw3⟩
      obtain rfl := hw3
      clear hnmc
      have hin := ky.within kd 0 2 w2
      by_cases hk : 0 ≤ kd ∧ kd ≤ 2
      case neg =>
        have hx : exOk ⟨nn, kd⟩ = false := by unfold exOk; simp only [hk, decide_false, Bool.and_false]
        have HA : Hid (es = AN) := (wrong HOK.out hx).1.symm.trans HAN.out
        have HR : Hid (false = rt) := (wrong HOK.out hx).2.symm.trans HRT.out
        rw [decide_eq_false hk] at hin
        go_wp2_with (go_at_call 48; fail)
        refine hin.mono ?_
        rintro e w3 ⟨rfl, hw3⟩
        obtain rfl := hw3
        clear hin hx hg hk
        have n0 : w2.cell? ⟨w1.heap.size, 0, none⟩ = some (.slice (some ⟨g1, 0, none⟩) es.length c1) := bcell RX2.out.out rfl
        have n1 : w2.cell? ⟨w1.heap.size, 1, none⟩ = some (.slice (some ⟨h1, 0, none⟩) bs.length c2) := bcell RX2.out.out rfl
        have z0 : w2.cell? ⟨w.heap.size + 1, 0, none⟩ = some (.slice none 0 0) := bcell RX2.out.res rfl
        have z1 : w2.cell? ⟨w.heap.size + 1, 1, none⟩ = some (.slice none 0 0) := bcell RX2.out.res rfl
        have z0f := bfree RX2.out.res 0
        have z1f := bfree RX2.out.res 1
        go_wp2
        refine bodyPost_ret (v := .tuple #[.agg #[.slice (some ⟨g1, 0, none⟩) es.length c1, .slice (some ⟨h1, 0, none⟩) bs.length c2], .bool false]) (by simp [results, Tryz.results13, go_sem, z0, z1]) rfl ⟨some ⟨g1, 0, none⟩, some ⟨h1, 0, none⟩, c1, c2, by rw [← HA.out, HR.out], ?_, ?_, ?_⟩
        · rw [← HA.out]; exact fin_E OE2.out
        · exact fin_B OB2.out
        · exact fin_below RX2.out.bel
      case pos =>
        rw [decide_eq_true hk] at hin
        go_wp2_with (go_at_call 48; fail)
        refine hin.mono ?_
        rintro e w3 ⟨rfl, hw3⟩
        obtain rfl := hw3
        clear hin hg hk
        have x0 : w2.cell? ⟨w.heap.size, 0, none⟩ = some (.slice none es.length 0) := bcell RX2.out.box rfl
        have x1 : w2.cell? ⟨w.heap.size, 1, none⟩ = some (.slice b0 bs.length bc) := bcell RX2.out.box rfl
        have hkc := fun (W : World) (h : RE W ka es) => rr.spec_kind es ka 0 b0 bs.length bc nn W hel h _ (nil_nq _ hnil.out)
        have hk3 := hkc w2 (HE.out.below RX2.out.bel)
        by_cases hkk : 0 ≤ kindOf es nn
        case pos =>
          have HA : Hid (es = AN) := (dp.kind_there HOK.out hkk).1.symm.trans HAN.out
          have HR : Hid (decide (kindOf es nn = kd) = rt) := (dp.kind_there HOK.out hkk).2.symm.trans HRT.out
          obtain ⟨kk, hkke⟩ : ∃ kk, kindOf es nn = kk := ⟨_, rfl⟩
          rw [hkke] at hk3 hkk HR
          simp only [hkke] at hkc
          clear hkke
          go_wp2_with (go_at_call 33; fail)
          refine hk3.mono ?_
          rintro e w3 ⟨rfl, hb3⟩
          have RX3 : Hid (RX w es bs none b0 0 bc w1.heap.size (.slice (some ⟨g1, 0, none⟩) es.length c1) (.slice (some ⟨h1, 0, none⟩) bs.length c2) w3) := RX2.out.on hb3
          have OE3 : Hid (OE w w3 g1 c1 es) := OE2.out.on hb3
          have OB3 : Hid (OB w w3 h1 c2 bs) := OB2.out.on hb3
          have hk5 := hkc w3.drew (HE.out.below RX3.out.bel.drew)
          have y0 : w3.cell? ⟨w.heap.size, 0, none⟩ = some (.slice none es.length 0) := bcell RX3.out.box rfl
          have y1 : w3.cell? ⟨w.heap.size, 1, none⟩ = some (.slice b0 bs.length bc) := bcell RX3.out.box rfl
          have m0 : w3.cell? ⟨w1.heap.size, 0, none⟩ = some (.slice (some ⟨g1, 0, none⟩) es.length c1) := bcell RX3.out.out rfl
          have m1 : w3.cell? ⟨w1.heap.size, 1, none⟩ = some (.slice (some ⟨h1, 0, none⟩) bs.length c2) := bcell RX3.out.out rfl
          clear hk3 RX2 OE2 OB2 hb3 x0 x1 hkc
          go_wp2
          go_region_with (go_at_call 33; refine hk5.mono ?_; rintro e w4 ⟨rfl, hb4⟩; have RX4 : Hid (RX w es bs none b0 0 bc w1.heap.size (.slice (some ⟨g1, 0, none⟩) es.length c1) (.slice (some ⟨h1, 0, none⟩) bs.length c2) w4) := RX3.out.on ((Below.refl _ _).drew.trans hb4); have OE4 : Hid (OE w w4 g1 c1 es) := OE3.out.on ((Below.refl _ _).drew.trans hb4); have OB4 : Hid (OB w w4 h1 c2 bs) := OB3.out.on ((Below.refl _ _).drew.trans hb4); have n0 : w4.cell? ⟨w1.heap.size, 0, none⟩ = some (.slice (some ⟨g1, 0, none⟩) es.length c1) := bcell RX4.out.out rfl; have n1 : w4.cell? ⟨w1.heap.size, 1, none⟩ = some (.slice (some ⟨h1, 0, none⟩) bs.length c2) := bcell RX4.out.out rfl; have z0 : w4.cell? ⟨w.heap.size + 1, 0, none⟩ = some (.slice none 0 0) := bcell RX4.out.res rfl; have z1 : w4.cell? ⟨w.heap.size + 1, 1, none⟩ = some (.slice none 0 0) := bcell RX4.out.res rfl; have z0f := bfree RX4.out.res 0; have z1f := bfree RX4.out.res 1; clear hb4)
          all_goals go_wp2
          all_goals refine bodyPost_ret (v := .tuple #[.agg #[.slice (some ⟨g1, 0, none⟩) es.length c1, .slice (some ⟨h1, 0, none⟩) bs.length c2], .bool (decide (kk = kd))]) (by simp [results, Tryz.results13, go_sem, z0, z1]; rfl) rfl ⟨some ⟨g1, 0, none⟩, some ⟨h1, 0, none⟩, c1, c2, by rw [← HA.out, HR.out], ?_, ?_, ?_⟩
          all_goals first | (rw [← HA.out]; exact fin_E OE4.out) | exact fin_B OB4.out | exact fin_below RX4.out.bel
        case neg =>
          have hno := kind_not HOK.out hkk
          go_wp2_with (go_at_call 33; fail)
          refine hk3.mono ?_
          rintro e w3 ⟨rfl, hb3⟩
          have RX3 : Hid (RX w es bs none b0 0 bc w1.heap.size (.slice (some ⟨g1, 0, none⟩) es.length c1) (.slice (some ⟨h1, 0, none⟩) bs.length c2) w3) := RX2.out.on hb3
          have OE3 : Hid (OE w w3 g1 c1 es) := OE2.out.on hb3
          have OB3 : Hid (OB w w3 h1 c2 bs) := OB2.out.on hb3
          have HE3 : Hid (RE w3 ka es) := HE.out.below RX3.out.bel
          have y0 : w3.cell? ⟨w.heap.size, 0, none⟩ = some (.slice none es.length 0) := bcell RX3.out.box rfl
          clear hk3 RX2 OE2 OB2 hb3 x0 x1 hkc
          have HNO : Hid (¬ hasE es nn) := hno
          obtain ⟨i0, hi, hz0, hz1, hz2⟩ := su.infoE
          clear hno
          go_wp2
          clear hkk
          go_loopw [9] (fun v wr => ∃ k : Nat, k ≤ es.length ∧ v = .int .i64 k ∧ Hid (∀ (i : Nat) a, i < k → es[i]? = some a → lt a.n nn = true) ∧ wr = w3) (fun v _ => es.length - (intOf v).toNat)
          case atStart => exact ⟨0, Nat.zero_le _, rfl, fun i a h => by omega, rfl⟩
          case round =>
            obtain ⟨k, hk4, rfl, hn, hwr⟩ := hrel
            have hkc : k ≤ 0 := Nat.le_trans hk4 (Nat.le_of_eq hnil.out)
            obtain rfl := hwr.symm
            by_cases hgo : ∃ a, es[k]? = some a ∧ lt a.n nn = true
            case pos =>
              obtain ⟨a, HG, hq⟩ := hgo
              exact absurd (List.getElem?_eq_some_iff.1 HG).1 (by have := hnil.out; omega)
            case neg =>
              have HP : Hid (posE es nn = k) := posE_eq es nn k hk4 hn.out (fun a ha => by
                cases hh : lt a.n nn with
                | false => rfl
                | true => exact absurd ⟨a, ha, hh⟩ hgo)
              have hend : (¬ k < es.length) ∨ ∃ an ak, es[k]? = some ⟨an, ak⟩ ∧ Op.bytesLess an.toList nn.toList = false := by
                by_cases hkl : k < es.length
                · right
                  refine ⟨es[k].n, es[k].k, List.getElem?_eq_getElem hkl, ?_⟩
                  cases hh : Op.bytesLess es[k].n.toList nn.toList with
                  | false => rfl
                  | true => exact absurd ⟨es[k], List.getElem?_eq_getElem hkl, hh⟩ hgo
                · exact .inl hkl
              clear hgo hn
              have hbeh : ∀ (k : Nat), k ≤ es.length → posE es nn = k → True := fun _ _ _ => trivial
              clear hbeh
              rcases hend with hkl | ⟨an, ak, HG, hq⟩
              · have f0 : decide ((k : Int) < (es.length : Int)) = false := by simp; omega
                go_wp2
                refine dk.region_gsets (wsN w.heap.size es.length w1.heap.size k nn kd) [53, 54, 55, 56, 57, 58, 59, 60, 61, 62, 63, 64, 65, 66, 67, 68, 69] (ta.C ⟨w3, 75, 2, (es.take k).flatMap cE, [.string nn, .int .i64 kd], (es.drop k).flatMap cE, k, es.length - k, w1.heap.size, 0⟩ J0) ⟨0, .slice none 0 0, 0, .slice none 0 0, .slice none 0 0⟩ (by kernel_rfl) (by kernel_rfl) (fun _ => rfl) (by kernel_rfl) (ta.start _ _ _) ?each ?fin
                case each =>
                  refine ⟨ta.st0 (x := J0) (d := 53) (idx := 0) J0_up (by simp) rfl (by simp) (fun g => rfl) (fun g => rfl) (fun g e => rfl) (fun s W => by simp [execOp, go_sem]), ?_⟩
                  refine ⟨ta.quiet (by decide) (by simp) (.pointer (some ⟨w.heap.size, 0, none⟩)) (by rintro s _ ⟨⟩; exact dk.sets_on _ (by simp) _ rfl) (fun s W h => by simp [execOp, go_sem, Act.eval, dk.sets_get, wsN, List.lookup]), ?_⟩
                  refine ⟨ta.quiet (by decide) (by simp) (.slice none es.length 0) (by rintro s _ ⟨⟩; exact dk.sets_on _ (by simp) _ rfl) (fun s W h => by have c : W.cell? ⟨w.heap.size, 0, none⟩ = some (.slice none es.length 0) := bcell (h _ _ RX3.out.box (by have := RX3.out.h8; show w.heap.size ≠ w1.heap.size; omega)) rfl; simp [execOp, go_sem, Act.eval, dk.sets_get, wsN, List.lookup, c]), ?_⟩
                  refine ⟨ta.quiet (by decide) (by simp) (.int .i64 k) (by rintro s _ ⟨⟩; exact dk.sets_on _ (by simp) _ rfl) (fun s W h => by simp [execOp, go_sem, Act.eval, dk.sets_get, wsN, List.lookup]), ?_⟩
                  refine ⟨ta.quiet (by decide) (by simp) (.slice none k 0) (by rintro s _ ⟨⟩; exact dk.sets_on _ (by simp) _ rfl) (fun s W h => by have h0 : k = 0 := Nat.le_zero.1 hkc; simp [execOp, go_sem, Act.eval, dk.sets_get, wsN, List.lookup, h0]), ?_⟩
                  refine ⟨tan.st1 (x := J0) (d := 58) (s1 := 53) (s2 := 57) (idx := 5) J0_up Tryz.underlying24 hi rfl rfl ⟨by simp, by simp, by simp⟩ (fun g => rfl) (fun g => rfl) (fun g => rfl) (fun g => rfl) (fun g v => rfl) (Nat.le_zero.1 hkc) (by show (es.take k).flatMap cE = []; rw [List.eq_nil_of_length_eq_zero hnil.out]; simp) ⟨⟨0, .data⟩, by simp, rfl, rfl⟩, ?_⟩
                  refine ⟨ta.quiet (by decide) (by simp) (.string nn) (by rintro s _ ⟨⟩; exact dk.sets_on _ (by simp) _ rfl) (fun s W h => by simp [execOp, go_sem, Act.eval, dk.sets_get, wsN, List.lookup]), ?_⟩
                  refine ⟨ta.quiet (by decide) (by simp) (.int .i64 kd) (by rintro s _ ⟨⟩; exact dk.sets_on _ (by simp) _ rfl) (fun s W h => by simp [execOp, go_sem, Act.eval, dk.sets_get, wsN, List.lookup]), ?_⟩
                  refine ⟨ta.quiet (by decide) (by simp) (.agg #[.string nn, .int .i64 kd]) (by rintro s _ ⟨⟩; exact dk.sets_on _ (by simp) _ rfl) (fun s W h => by simp [execOp, go_sem, Act.eval, dk.sets_get, wsN, List.lookup]), ?_⟩
                  refine ⟨ta.st2 (x := J0) (d := 62) (idx := 9) J0_up (by simp) rfl (by simp) (fun g => rfl) (fun g => rfl) (fun g e => rfl) (fun s W => by simp [execOp, go_sem, Act.eval, dk.sets_get, wsN, List.lookup]), ?_⟩
                  refine ⟨ta.st3 (x := J0) (d := 63) (s1 := 58) (s2 := 62) (idx := 10) J0_up Tryz.underlying24 hi hz0 hz1 hz2 rfl (by show 0 < 2; decide) rfl rfl ⟨by simp, by simp, by simp⟩ (fun g => rfl) (fun g => rfl) (fun g => rfl) (fun g => rfl) (fun g v => rfl) rfl (by intro u hu; simp at hu; rcases hu with rfl | rfl <;> rfl) (by show k ≤ 1048576; omega) (by show (k + 1) * 24 ≤ 140737488355328; omega) ⟨⟨5, .data⟩, by simp, rfl, rfl⟩ ⟨⟨9, .data⟩, by simp, rfl, rfl⟩, ?_⟩
                  refine ⟨ta.quiet (by decide) (by simp) (.pointer (some ⟨w.heap.size, 0, none⟩)) (by rintro s _ ⟨⟩; exact dk.sets_on _ (by simp) _ rfl) (fun s W h => by simp [execOp, go_sem, Act.eval, dk.sets_get, wsN, List.lookup]), ?_⟩
                  refine ⟨ta.quiet (by decide) (by simp) (.slice none es.length 0) (by rintro s _ ⟨⟩; exact dk.sets_on _ (by simp) _ rfl) (fun s W h => by have c : W.cell? ⟨w.heap.size, 0, none⟩ = some (.slice none es.length 0) := bcell (h _ _ RX3.out.box (by have := RX3.out.h8; show w.heap.size ≠ w1.heap.size; omega)) rfl; simp [execOp, go_sem, Act.eval, dk.sets_get, wsN, List.lookup, c]), ?_⟩
                  refine ⟨ta.quiet (by decide) (by simp) (.int .i64 k) (by rintro s _ ⟨⟩; exact dk.sets_on _ (by simp) _ rfl) (fun s W h => by simp [execOp, go_sem, Act.eval, dk.sets_get, wsN, List.lookup]), ?_⟩
                  refine ⟨ta.quiet (by decide) (by simp) (.slice none (es.length - k) 0) (by rintro s _ ⟨⟩; exact dk.sets_on _ (by simp) _ rfl) (fun s W h => by have h0 : k = 0 := Nat.le_zero.1 hkc; simp [execOp, go_sem, Act.eval, dk.sets_get, wsN, List.lookup, h0]), ?_⟩
                  refine ⟨tan.st4 (x := J0) (d := 68) (s1 := 63) (s2 := 67) (idx := 15) J0_up Tryz.underlying24 hi rfl rfl ⟨by simp, by simp, by simp⟩ (fun g => rfl) (fun g => rfl) (fun g => rfl) (fun g => rfl) (fun g v => rfl) (by show es.length - k = 0; have := hnil.out; omega) (by show (es.drop k).flatMap cE = []; rw [List.eq_nil_of_length_eq_zero hnil.out]; simp) ⟨⟨10, .data⟩, by simp, rfl, rfl⟩, ?_⟩
                  refine ⟨ta.quiet (by decide) (by simp) (.pointer (some ⟨w1.heap.size, 0, none⟩)) (by rintro s _ ⟨⟩; exact dk.sets_on _ (by simp) _ rfl) (fun s W h => by simp [execOp, go_sem, Act.eval, dk.sets_get, wsN, List.lookup]), ?_⟩
                  exact ⟨ta.st5 (x := J0) J0_up (by simp) rfl RX3.out.n8lt (fun s W h hv => by obtain ⟨av, nv, cv, hv⟩ := hv; have hu := h _ _ RX3.out.out; have c : W.cell? ⟨w1.heap.size, 0, none⟩ = some (.slice (some ⟨g1, 0, none⟩) es.length c1) := bcell hu rfl; have f := bfree hu 0; rw [hv]; simp [execOp, go_sem, Act.eval, dk.sets_get, wsN, List.lookup, c, f, hv]) ⟨⟨15, .data⟩, by simp, rfl, rfl⟩, trivial⟩
                case fin =>
                  intro g L W hL hC
                  obtain ⟨V, hV, hWV, hown⟩ := ta.done hC J0_up (N := 18) (by decide) hL
                  replace hown : W.ownsRow w3.heap.size 75 2 g.v3 (k + 1 + (es.length - k)) ((es.take k).flatMap cE ++ [.string nn, .int .i64 kd] ++ (es.drop k).flatMap cE) := hown
                  have hlen : k + 1 + (es.length - k) = (insE es nn kd).length := by rw [insE_len]; omega
                  rw [ins_flat HP.out, hlen] at hown
                  obtain ⟨g5, c5, hv3⟩ := form_pos hown (by rw [insE_len]; omega)
                  rw [hv3] at hown hWV
                  replace hV : Below w3.heap.size w3 V := hV
                  replace hWV : W = V.setCell ⟨w1.heap.size, 0, none⟩ (.slice (some ⟨g5, 0, none⟩) (insE es nn kd).length c5) := hWV
                  have RX5 : Hid (RX w es bs none b0 0 bc w1.heap.size (.slice (some ⟨g5, 0, none⟩) (insE es nn kd).length c5) (.slice (some ⟨h1, 0, none⟩) bs.length c2) W) := by rw [hWV]; exact (RX3.out.on hV).put0 _
                  have OB5 : Hid (OB w W h1 c2 bs) := by rw [hWV]; exact (OB3.out.on hV).put (RX3.out.on hV) 0 _
                  have hsz3 := RX3.out.size
                  have OE5 : Hid (OE w W g5 c5 (insE es nn kd)) := own_low hown hsz3
                  have hok5 := rk.spec_routes (insE es nn kd) bs g5 c5 h1 c2 W (by rw [insE_len]; omega) hbl (ins_small HES.out hnm) HBS.out OE5.out.re OB5.out.rb _ _ (own_nq _ _ _) (own_nq _ _ _)
                  have o0 : W.cell? ⟨w1.heap.size, 0, none⟩ = some (.slice (some ⟨g5, 0, none⟩) (insE es nn kd).length c5) := bcell RX5.out.out rfl
                  have o1 : W.cell? ⟨w1.heap.size, 1, none⟩ = some (.slice (some ⟨h1, 0, none⟩) bs.length c2) := bcell RX5.out.out rfl
                  obtain ⟨n5, hn5⟩ : ∃ n5, (insE es nn kd).length = n5 := ⟨_, rfl⟩
                  have HN5 : Hid ((insE es nn kd).length = n5) := hn5
                  rw [hn5] at hok5 o0 RX5
                  rw [hn5] at hv3
                  simp only [dk.sets, wsN, hv3]
                  clear hC hL hV hWV hown hlen hv3 hn5 RX3 OE3 OB3 HE3 y0
                  go_wp2_with (go_at_call 17; fail)
                  clear o0 o1
                  refine hok5.mono ?_
                  rintro e w6 ⟨⟨bo, rfl, hbo⟩, hb6⟩
                  have RX6 : Hid (RX w es bs none b0 0 bc w1.heap.size (.slice (some ⟨g5, 0, none⟩) n5 c5) (.slice (some ⟨h1, 0, none⟩) bs.length c2) w6) := RX5.out.on hb6
                  have OE6 : Hid (OE w w6 g5 c5 (insE es nn kd)) := OE5.out.on hb6
                  have OB6 : Hid (OB w w6 h1 c2 bs) := OB5.out.on hb6
                  clear hok5 RX5 OE5 OB5 hb6
                  by_cases hok2 : OkR (insE es nn kd) bs
                  case pos =>
                    obtain rfl : bo = true := hbo.2 hok2
                    have HA : Hid (insE es nn kd = AN) := (put HOK.out HNO.out hok2).1.symm.trans HAN.out
                    have HR : Hid (true = rt) := (put HOK.out HNO.out hok2).2.symm.trans HRT.out
                    clear hbo hok2
                    have n0 : w6.cell? ⟨w1.heap.size, 0, none⟩ = some (.slice (some ⟨g5, 0, none⟩) n5 c5) := bcell RX6.out.out rfl
                    have n1 : w6.cell? ⟨w1.heap.size, 1, none⟩ = some (.slice (some ⟨h1, 0, none⟩) bs.length c2) := bcell RX6.out.out rfl
                    have z0 : w6.cell? ⟨w.heap.size + 1, 0, none⟩ = some (.slice none 0 0) := bcell RX6.out.res rfl
                    have z1 : w6.cell? ⟨w.heap.size + 1, 1, none⟩ = some (.slice none 0 0) := bcell RX6.out.res rfl
                    have z0f := bfree RX6.out.res 0
                    have z1f := bfree RX6.out.res 1
                    go_wp2
                    refine bodyPost_ret (v := .tuple #[.agg #[.slice (some ⟨g5, 0, none⟩) n5 c5, .slice (some ⟨h1, 0, none⟩) bs.length c2], .bool true]) (by simp [results, Tryz.results13, go_sem, z0, z1]) rfl ⟨some ⟨g5, 0, none⟩, some ⟨h1, 0, none⟩, c5, c2, by rw [← HA.out, HN5.out, HR.out], ?_, ?_, ?_⟩
                    · rw [← HA.out]; exact fin_E OE6.out
                    · exact fin_B OB6.out
                    · exact fin_below RX6.out.bel
                  case neg =>
                    obtain rfl : bo = false := by
                      cases bo with
                      | false => rfl
                      | true => exact absurd (hbo.1 rfl) hok2
                    have HA : Hid (es = AN) := (over HOK.out HNO.out hok2).1.symm.trans HAN.out
                    have HR : Hid (false = rt) := (over HOK.out HNO.out hok2).2.symm.trans HRT.out
                    have hc6 := sc.spec_copy es bs none b0 0 bc w6 hel hbl (HE.out.below RX6.out.bel) (HB.out.below RX6.out.bel) (nil_nq _ hnil.out) hnb
                    have x0 : w6.cell? ⟨w.heap.size, 0, none⟩ = some (.slice none es.length 0) := bcell RX6.out.box rfl
                    have x1 : w6.cell? ⟨w.heap.size, 1, none⟩ = some (.slice b0 bs.length bc) := bcell RX6.out.box rfl
                    clear hbo hok2
                    go_wp2_with (go_at_call 42; fail)
                    refine hc6.mono ?_
                    rintro e w7 ⟨g7, c7, h7, d7, rfl, oe7, ob7, hb7⟩
                    have hsz6 := RX6.out.size
                    have RX7 : Hid (RX w es bs none b0 0 bc w1.heap.size (.slice (some ⟨g5, 0, none⟩) n5 c5) (.slice (some ⟨h1, 0, none⟩) bs.length c2) w7) := RX6.out.on hb7
                    have OE7 : Hid (OE w w7 g7 c7 es) := own_low oe7 (by omega)
                    have OB7 : Hid (OB w w7 h7 d7 bs) := own_low ob7 (by omega)
                    clear hc6 oe7 ob7 hb7 x0 x1
                    have z0 : w7.cell? ⟨w.heap.size + 1, 0, none⟩ = some (.slice none 0 0) := bcell RX7.out.res rfl
                    have z1 : w7.cell? ⟨w.heap.size + 1, 1, none⟩ = some (.slice none 0 0) := bcell RX7.out.res rfl
                    have z0f := bfree RX7.out.res 0
                    have z1f := bfree RX7.out.res 1
                    go_wp2
                    refine bodyPost_ret (v := .tuple #[.agg #[.slice (some ⟨g7, 0, none⟩) es.length c7, .slice (some ⟨h7, 0, none⟩) bs.length d7], .bool false]) (by simp [results, Tryz.results13, go_sem, z0, z1]) rfl ⟨some ⟨g7, 0, none⟩, some ⟨h7, 0, none⟩, c7, d7, by rw [← HA.out, HR.out], ?_, ?_, ?_⟩
                    · rw [← HA.out]; exact fin_E OE7.out
                    · exact fin_B OB7.out
                    · exact fin_below RX7.out.bel
              · exact absurd (List.getElem?_eq_some_iff.1 HG).1 (by have := hnil.out; omega)
end Go.Proofs.YtnooibeohdfcmaaGreatDoor.dsp

/- A binding put among ascending bindings: their order, where it goes, the list behind it, and what Bind answers. -/
namespace Go.Proofs.YtnooibeohdfcmaaGreatDoor.bp
open Go.Proofs.YtnooibeohdfcmaaGreatDoor.rc Go.Proofs.YtnooibeohdfcmaaGreatDoor.rr Go.Proofs.YtnooibeohdfcmaaGreatDoor.rf Go.Proofs.YtnooibeohdfcmaaGreatDoor.rs Go.Proofs.YtnooibeohdfcmaaGreatDoor.ro
set_option linter.unusedVariables false

theorem before_trans {a b c : Bi} (h1 : before a b = true) (h2 : before b c = true) : before a c = true := by
  unfold before at *
  by_cases e1 : a.x = b.x
  · rw [if_pos e1] at h1
    by_cases e2 : b.x = c.x
    · rw [if_pos e2] at h2
      rw [if_pos (e1.trans e2)]
      by_cases f1 : a.k = b.k
      · rw [if_pos f1] at h1
        by_cases f2 : b.k = c.k
        · rw [if_pos f2] at h2
          rw [if_pos (f1.trans f2)]
          exact lt_trans h1 h2
        · rw [if_neg f2] at h2
          rw [if_neg (by rw [f1]; exact f2), f1]
          exact h2
      · rw [if_neg f1] at h1
        by_cases f2 : b.k = c.k
        · rw [if_neg (by rw [← f2]; exact f1), ← f2]
          exact h1
        · rw [if_neg f2] at h2
          have h3 := lt_trans h1 h2
          rw [if_neg (fun e => by rw [e, lt_irrefl] at h3; cases h3)]
          exact h3
    · rw [if_neg e2] at h2
      rw [if_neg (by rw [e1]; exact e2), e1]
      exact h2
  · rw [if_neg e1] at h1
    by_cases e2 : b.x = c.x
    · rw [if_neg (by rw [← e2]; exact e1), ← e2]
      exact h1
    · rw [if_neg e2] at h2
      have h3 := lt_trans h1 h2
      rw [if_neg (fun e => by rw [e, lt_irrefl] at h3; cases h3)]
      exact h3
theorem cmpB_zero {a b : Bi} : cmpB a b = 0 ↔ a = b := by
  unfold cmpB or3
  constructor
  · intro h
    by_cases h1 : cmpT a.x b.x = 0
    · rw [if_neg (by simp [h1])] at h
      by_cases h2 : cmpT a.k b.k = 0
      · rw [if_neg (by simp [h2])] at h
        obtain ⟨ax, ak, aq⟩ := a
        obtain ⟨bx, bk, bq⟩ := b
        have e1 := cmp_zero.1 h1
        have e2 := cmp_zero.1 h2
        have e3 := cmp_zero.1 h
        simp only at e1 e2 e3
        subst e1 e2 e3
        rfl
      · rw [if_pos h2] at h
        exact absurd h h2
    · rw [if_pos h1] at h
      exact absurd h h1
  · rintro rfl
    have e1 : cmpT a.x a.x = 0 := cmp_zero.2 rfl
    have e2 : cmpT a.k a.k = 0 := cmp_zero.2 rfl
    have e3 : cmpT a.q a.q = 0 := cmp_zero.2 rfl
    rw [if_neg (by simp [e1]), if_neg (by simp [e2]), e3]
/-- what stands up to h is ahead of the binding, once what stands at h is -/
def MonB (l : List Bi) (t : Bi) : Prop := ∀ (i j : Nat) a b, i ≤ j → l[i]? = some a → l[j]? = some b → cmpB b t < 0 → cmpB a t < 0
/-- p is the place of the binding -/
def PosB (l : List Bi) (t : Bi) (p : Nat) : Prop := p ≤ l.length ∧ (∀ (i : Nat) a, i < p → l[i]? = some a → cmpB a t < 0) ∧ ∀ (i : Nat) a, p ≤ i → l[i]? = some a → 0 ≤ cmpB a t
theorem up_ltB {l : List Bi} (h : UpB l l.length) : ∀ (d i : Nat) (a b : Bi), l[i]? = some a → l[i + d + 1]? = some b → before a b = true
  | 0, i, a, b, ha, hb => before_cmp.2 (h i a b (List.getElem?_eq_some_iff.1 hb).1 ha hb)
  | d + 1, i, a, b, ha, hb => by
    have hlt := (List.getElem?_eq_some_iff.1 hb).1
    have hm : l[i + d + 1]? = some l[i + d + 1] := List.getElem?_eq_getElem (by omega)
    exact before_trans (up_ltB h d i a _ ha hm) (before_cmp.2 (h (i + d + 1) _ b (by omega) hm (by rw [← hb]; congr 1)))
theorem up_monB {l : List Bi} (h : UpB l l.length) (t : Bi) : MonB l t := by
  intro i j a b hij ha hb hn
  by_cases e : i = j
  · subst e
    rw [ha] at hb
    cases hb
    exact hn
  · obtain ⟨d, rfl⟩ : ∃ d, j = i + d + 1 := ⟨j - i - 1, by omega⟩
    exact before_cmp.1 (before_trans (up_ltB h d i a b ha hb) (before_cmp.2 hn))
def hasB (l : List Bi) (t : Bi) : Prop := ∃ i : Nat, l[i]? = some t
/-- the search finds just what is there -/
theorem foundB {l : List Bi} (h : UpB l l.length) {t : Bi} {p : Nat} (hp : PosB l t p) : (∃ a, l[p]? = some a ∧ cmpB a t = 0) ↔ hasB l t := by
  constructor
  · rintro ⟨a, ha, hz⟩
    rw [cmpB_zero.1 hz] at ha
    exact ⟨p, ha⟩
  · rintro ⟨i, ha⟩
    have hz : cmpB t t = 0 := cmpB_zero.2 rfl
    have htp : p ≤ i := by
      by_cases e : i < p
      · have := hp.2.1 i t e ha; omega
      · omega
    by_cases e : i = p
    · subst e; exact ⟨t, ha, hz⟩
    · obtain ⟨d, rfl⟩ : ∃ d, i = p + d + 1 := ⟨i - p - 1, by omega⟩
      have hlt := (List.getElem?_eq_some_iff.1 ha).1
      have hm : l[p]? = some l[p] := List.getElem?_eq_getElem (by omega)
      have h1 := hp.2.2 p _ (Nat.le_refl _) hm
      have h2 := before_cmp.1 (up_ltB h d p _ t hm ha)
      omega
def posB : List Bi → Bi → Nat
  | [], _ => 0
  | e :: l, t => if before e t then posB l t + 1 else 0
theorem posB_le : ∀ (l : List Bi) (t : Bi), posB l t ≤ l.length
  | [], _ => Nat.le_refl _
  | e :: l, t => by
    unfold posB
    have := posB_le l t
    split
    · simpa using this
    · exact Nat.zero_le _
theorem posB_eq : ∀ (l : List Bi) (t : Bi) (p : Nat), p ≤ l.length → (∀ (i : Nat) a, i < p → l[i]? = some a → before a t = true) → (∀ a, l[p]? = some a → before a t = false) → posB l t = p
  | [], t, p, h, _, _ => by simp at h; subst h; rfl
  | e :: l, t, 0, _, _, h3 => by
    unfold posB
    rw [h3 e rfl]
    rfl
  | e :: l, t, p + 1, h1, h2, h3 => by
    unfold posB
    rw [h2 0 e (by omega) rfl, if_pos rfl, posB_eq l t p (by simpa using h1) (fun i a hi ha => h2 (i + 1) a (by omega) (by simpa using ha)) (fun a ha => h3 a (by simpa using ha))]
theorem posB_of {l : List Bi} {t : Bi} {p : Nat} (h : PosB l t p) : posB l t = p :=
  posB_eq l t p h.1 (fun i a hi ha => before_cmp.2 (h.2.1 i a hi ha)) (fun a ha => by
    have := h.2.2 p a (Nat.le_refl _) ha
    cases hh : before a t with
    | false => rfl
    | true => have := before_cmp.1 hh; omega)
/-- and the other way round, in an ascending list -/
theorem pos_is {l : List Bi} (hu : UpB l l.length) {t : Bi} {p : Nat} (hp : p ≤ l.length) (h2 : ∀ (i : Nat) a, i < p → l[i]? = some a → before a t = true) (h3 : ∀ a, l[p]? = some a → before a t = false) : PosB l t p := by
  refine ⟨hp, fun i a hi ha => before_cmp.1 (h2 i a hi ha), fun i a hi ha => ?_⟩
  have hlt := (List.getElem?_eq_some_iff.1 ha).1
  have hm : l[p]? = some l[p] := List.getElem?_eq_getElem (by omega)
  have hf := h3 _ hm
  by_cases hn : cmpB a t < 0
  · have := up_monB hu t p i _ a hi hm ha hn
    rw [before_cmp.2 this] at hf
    cases hf
  · omega
def insB (l : List Bi) (t : Bi) : List Bi := l.take (posB l t) ++ t :: l.drop (posB l t)
theorem insB_len (l : List Bi) (t : Bi) : (insB l t).length = l.length + 1 := by
  have := posB_le l t
  unfold insB
  simp
  omega
theorem insB_mem {l : List Bi} {t e : Bi} (h : e ∈ insB l t) : e ∈ l ∨ e = t := by
  unfold insB at h
  rcases List.mem_append.1 h with h | h
  · exact .inl (List.mem_of_mem_take h)
  · rcases List.mem_cons.1 h with h | h
    · exact .inr h
    · exact .inl (List.mem_of_mem_drop h)
theorem insB_at (l : List Bi) (t : Bi) : (insB l t)[posB l t]? = some t := by
  have := posB_le l t
  unfold insB
  rw [List.getElem?_append_right (by simp; omega)]
  simp [Nat.min_eq_left this]
open Classical in
noncomputable def fitB (es : List Ex) (bs : List Bi) (t : Bi) : Bool := decide (OkR es bs ∧ ¬ hasB bs t ∧ OkR es (insB bs t))
open Classical in
noncomputable def retB (es : List Ex) (bs : List Bi) (t : Bi) : Bool := decide (fitB es bs t = true ∨ (OkR es bs ∧ hasB bs t))
noncomputable def ansB (es : List Ex) (bs : List Bi) (t : Bi) : List Bi := if fitB es bs t = true then insB bs t else bs
section
variable {es : List Ex} {bs : List Bi} {t : Bi}
theorem not_fit (h : ¬ (OkR es bs ∧ ¬ hasB bs t ∧ OkR es (insB bs t))) : fitB es bs t = false := by unfold fitB; simp [h]
theorem ans_same (h : fitB es bs t = false) : ansB es bs t = bs := by unfold ansB; rw [if_neg (by rw [h]; simp)]
/-- the routes are not right -/
theorem bad (h : ¬ OkR es bs) : ansB es bs t = bs ∧ retB es bs t = false := by
  have hf := not_fit (t := t) (es := es) (bs := bs) (fun x => h x.1)
  refine ⟨ans_same hf, ?_⟩
  unfold retB
  rw [hf]
  simp [h]
/-- the exchange is not there, or the key or the queue is wrong -/
theorem wrong (h : OkR es bs) (hx : ¬ (0 ≤ kindOf es t.x ∧ ky.good t.k = true ∧ nm.good t.q = true)) : ansB es bs t = bs ∧ retB es bs t = false := by
  have hf : fitB es bs t = false := not_fit (fun x => hx (x.2.2.bo (posB bs t) t (insB_at bs t)))
  refine ⟨ans_same hf, ?_⟩
  unfold retB
  rw [hf]
  simp only [Bool.false_eq_true, false_or, decide_eq_false_iff_not]
  rintro ⟨_, i, h1⟩
  exact hx (h.bo i t h1)
/-- it is there -/
theorem there (h : OkR es bs) (ha : hasB bs t) : ansB es bs t = bs ∧ retB es bs t = true := by
  have hf : fitB es bs t = false := not_fit (fun x => x.2.1 ha)
  refine ⟨ans_same hf, ?_⟩
  unfold retB
  rw [hf]
  simp only [Bool.false_eq_true, false_or, decide_eq_true_eq]
  exact ⟨h, ha⟩
/-- it is put, and that is right -/
theorem put (h : OkR es bs) (hh : ¬ hasB bs t) (h2 : OkR es (insB bs t)) : ansB es bs t = insB bs t ∧ retB es bs t = true := by
  have hf : fitB es bs t = true := by unfold fitB; simp [h, hh, h2]
  refine ⟨by unfold ansB; rw [if_pos hf], ?_⟩
  unfold retB
  rw [hf]
  simp
/-- it is put, and that is not right -/
theorem over (h : OkR es bs) (hh : ¬ hasB bs t) (h2 : ¬ OkR es (insB bs t)) : ansB es bs t = bs ∧ retB es bs t = false := by
  have hf : fitB es bs t = false := not_fit (fun x => h2 x.2.2)
  refine ⟨ans_same hf, ?_⟩
  unfold retB
  rw [hf]
  simp only [Bool.false_eq_true, false_or, decide_eq_false_iff_not]
  rintro ⟨_, ha⟩
  exact hh ha
end
theorem ins_small {bs : List Bi} {t : Bi} (h : ∀ b ∈ bs, b.x.size ≤ 1048576 ∧ b.k.size ≤ 1048576 ∧ b.q.size ≤ 1048576) (ht : t.x.size ≤ 1048576 ∧ t.k.size ≤ 1048576 ∧ t.q.size ≤ 1048576) : ∀ b ∈ insB bs t, b.x.size ≤ 1048576 ∧ b.k.size ≤ 1048576 ∧ b.q.size ≤ 1048576 := fun e he => by
  rcases insB_mem he with h1 | rfl
  · exact h e h1
  · exact ht
end Go.Proofs.YtnooibeohdfcmaaGreatDoor.bp
