/- The specification's draw of a key. -/
import Derived.Test.YtnlcmheahihlpaaDrawBase
import Derived.Test.YtnlcmheahihlpaaQw14
import Derived.Deep.RegionWith

/- The draw of one case out of n. -/
namespace Go.Proofs.Ytnlcmheahihlpaa.dw
open Go.ChangeShapes Go.WideShapes Go.ChangeAt Go.RowKit

theorem draw_once (p : Nat) (a : Option Addr) (len cap n : Nat) (w : World) (hn : 1 ≤ n ∧ n ≤ 4294967296) (hc : Cur w p a len cap) :
    Calls Try.prog 47 #[.pointer (some ⟨p, 0, none⟩), .int .i64 n] w fun e w' => (∃ b : Bool, e = .returned (.bool b)) ∧ Cur w' p a len cap ∧ On p w w' := by
  have h1 := draw_below p a len cap n w hn hc
  clear hc
  go_enter Try.func47, Try.ntmps47
  go_wp2_with (go_at_call 49; refine h1.mono ?_; rintro e w1 ⟨⟨x, hx, rfl⟩, hc1, hb1⟩)
  go_ret
  exact ⟨⟨_, rfl⟩, hc1, hb1⟩
end Go.Proofs.Ytnlcmheahihlpaa.dw

/- The specification's draw of a queue. -/
namespace Go.Proofs.Ytnlcmheahihlpaa.dtq
open Go.ChangeShapes Go.WideShapes Go.ChangeAt Go.RowKit Go.Proofs.Ytnlcmheahihlpaa.fl Go.Proofs.Ytnlcmheahihlpaa.dw Go.Proofs.Ytnlcmheahihlpaa.qsp Go.Proofs.Ytnlcmheahihlpaa.dlq
set_option linter.unusedVariables false

def keys2 : List ByteArray := [⟨#[]⟩, ⟨#[120]⟩]
theorem keys2_in : ∀ z ∈ keys2, z.size ≤ 1 := by decide
/-- how long the list in a cell is -/
def lenC (b o : Nat) (W : World) : Nat := match W.cell? ⟨b, o, none⟩ with
  | some (.slice _ n _) => n
  | _ => 0
theorem lenC_eq {b o n c : Nat} {a : Option Addr} {W : World} (h : W.cell? ⟨b, o, none⟩ = some (.slice a n c)) : lenC b o W = n := by unfold lenC; rw [h]
set_option maxRecDepth 100000 in
set_option maxHeartbeats 4000000 in
theorem draw_queue (p : Nat) (a : Option Addr) (len cap : Nat) (w : World) (hc : Cur w p a len cap) :
    Calls Try.prog 44 #[.pointer (some ⟨p, 0, none⟩)] w fun e w' => (∃ (sn : ByteArray) (nx : Int) (es : List flM.Ms) (ms : List flH.Hd) (ga : Option Addr) (cg : Nat) (ha : Option Addr) (ch : Nat), e = .returned (.agg #[.string sn, .int .i64 nx, .slice ga es.length cg, .slice ha ms.length ch]) ∧ Sm 520 sn es ms ∧ Tq w.heap.size w' es ms ga cg ha ch) ∧ Cur w' p a len cap ∧ On p w w' := by
  have hs0 := st_0 hc
  have h1 := draw_below p a len cap 16 _ (by omega) hs0.cur
  have HS0 : Hid (St p a len cap w ⟨#[113]⟩ 1 [] [] none 0 none 0 ((w.alloc (.cells #[.string ⟨#[]⟩, .int .i64 0, .slice none 0 0, .slice none 0 0] 27)).alloc (.cells #[.string ⟨#[113]⟩, .int .i64 1, .slice none 0 0, .slice none 0 0] 27))) := hs0
  have hp := hc.lt
  clear hc hs0
  go_enter Try.func44, Try.ntmps44
  go_wp2_with (go_at_call 49; fail)
  refine h1.mono ?_
  rintro e w1 ⟨⟨n, hn, rfl⟩, hc1, hb1⟩
  have HS1 : Hid (St p a len cap w ⟨#[113]⟩ 1 [] [] none 0 none 0 w1) := HS0.out.draw hc1 hb1
  clear h1 hc1 hb1 HS0
  go_wp2
  go_loopw [5, 6] (fun y x wr => ∃ (j tg : Nat) (sn : ByteArray) (nx : Int) (es : List flM.Ms) (ms : List flH.Hd) (ga : Option Addr) (cg : Nat) (ha : Option Addr) (ch : Nat), j ≤ n ∧ tg ≤ j ∧ x = .int .i64 j ∧ y = .int .i64 tg ∧ Hid (Sm j sn es ms) ∧ Hid (1 ≤ nx ∧ nx ≤ (j : Int) + 1) ∧ Hid (St p a len cap w sn nx es ms ga cg ha ch wr)) (fun _ x _ => n - (intOf x).toNat)
  case atStart => exact ⟨0, 0, ⟨#[113]⟩, 1, [], [], none, 0, none, 0, Nat.zero_le _, Nat.le_refl _, rfl, rfl, sm_nil, ⟨by decide, by decide⟩, HS1⟩
  case round =>
    obtain ⟨j, tg, sn, nx, es, ms, ga, cg, ha, ch, hj, htg, rfl, rfl, HSM, HNX, hst⟩ := hrel
    clear HS1
    by_cases hjn : j < n
    · have i2 : (j : Int) < (n : Int) := by omega
      have c0 : wr.cell? ⟨w.heap.size + 1, 0, none⟩ = some (.string sn) := bcell hst.out.sb rfl
      have c1 : wr.cell? ⟨w.heap.size + 1, 1, none⟩ = some (.int .i64 nx) := bcell hst.out.sb rfl
      have c2 : wr.cell? ⟨w.heap.size + 1, 2, none⟩ = some (.slice ga es.length cg) := bcell hst.out.sb rfl
      have c3 : wr.cell? ⟨w.heap.size + 1, 3, none⟩ = some (.slice ha ms.length ch) := bcell hst.out.sb rfl
      have hsb := hst.out.size
      have HN0 : Hid ((wr.alloc (.cells #[.string sn, .int .i64 nx, .slice ga es.length cg, .slice ha ms.length ch] 27)).heap[wr.heap.size]? = some (.cells #[.string sn, .int .i64 nx, .slice ga es.length cg, .slice ha ms.length ch] 27 (0, 0))) := bnew _ _ _
      have HT0 : Hid (St p a len cap w sn nx es ms ga cg ha ch (wr.alloc (.cells #[.string sn, .int .i64 nx, .slice ga es.length cg, .slice ha ms.length ch] 27))) := hst.out.alloc _
      have g1 := draw_below p a len cap 6 _ (by omega) HT0.out.cur
      go_wp2_with (go_at_call 49; fail)
      clear c0 c1 c2 c3 hst
      refine g1.mono ?_
      rintro e x1 ⟨⟨z, hz, rfl⟩, hd1, hf1⟩
      have HT1 : Hid (St p a len cap w sn nx es ms ga cg ha ch x1) := HT0.out.draw hd1 hf1
      have HN1 : Hid (x1.heap[wr.heap.size]? = some (.cells #[.string sn, .int .i64 nx, .slice ga es.length cg, .slice ha ms.length ch] 27 (0, 0))) := st_block HN0.out hf1 (by omega)
      have hs1 := HT1.out.size
      clear g1 hd1 hf1 HN0 HT0
      by_cases z3 : z < 3
      · obtain rfl | rfl | rfl : z = 0 ∨ z = 1 ∨ z = 2 := by omega
        all_goals
          go_wp2
          refine cht.region (σ := G) (ws := (fun s : G => [(37, .agg #[.string sn, .int .i64 nx, .slice ga es.length cg, .slice ha ms.length ch]), (38, .pointer (some ⟨p, 0, none⟩)), (39, .slice (some ⟨s.a, 0, none⟩) 2 2), (40, .string s.u), (41, .pointer (some ⟨p, 0, none⟩)), (42, .string s.t), (43, .pointer (some ⟨p, 0, none⟩)), (44, .pointer (some ⟨p, 0, none⟩)), (45, .int .i64 s.x), (46, .string s.c), (47, .tuple #[s.v, .bool s.b]), (36, .tuple #[s.v, .bool s.b]), (48, s.v), (49, .bool s.b)])) (js := [2, 3, 5, 8, 9, 10, 14]) (S := (fun g k W => Sx p a len cap w sn nx es ms ga cg ha ch wr.heap.size j 6 (fun g k W => (k = 1 → p ≠ g.a ∧ ∀ i, i < 2 → ∃ z ∈ keys2, W.cell? ⟨g.a, i, none⟩ = some (.string z)) ∧ (2 ≤ k → g.u.size ≤ 1) ∧ (3 ≤ k → g.t.size ≤ 5) ∧ (k = 4 → g.x < 5) ∧ (5 ≤ k → g.c.size ≤ 5)) g k W)) [37, 38, 39, 40, 41, 42, 43, 44, 45, 46, 47, 36, 48, 49] ⟨0, 0, 0, ⟨#[]⟩, ⟨#[]⟩, ⟨#[]⟩, 0, undef, undef, false⟩ (by kernel_rfl) (by kernel_rfl) (fun _ => rfl) (by kernel_rfl) (by decide) ⟨HT1.out.step (Below.refl _ _).drew, ⟨fun h => (by omega), fun h => (by omega), fun h => (by omega), fun h => (by omega), fun h => (by omega)⟩, fun _ => bstay HN1.out (Below.refl _ _).drew (by have := (Array.getElem?_eq_some_iff.1 HN1.out).1; omega), fun e => (by omega), fun e => (by omega)⟩ ?_ ?_
          · refine ⟨cht.quiet 7 rfl (by decide) (.inl rfl) (by simp) (fun s => .agg #[.string sn, .int .i64 nx, .slice ga es.length cg, .slice ha ms.length ch]) (by rintro s _ ⟨⟩; exact dk.sets_on _ (by simp) _ rfl) (fun s k' W hk' hS => by have c0 : W.cell? ⟨w.heap.size + 1, 0, none⟩ = some (.string sn) := bcell hS.st.sb rfl; have c1 : W.cell? ⟨w.heap.size + 1, 1, none⟩ = some (.int .i64 nx) := bcell hS.st.sb rfl; have c2 : W.cell? ⟨w.heap.size + 1, 2, none⟩ = some (.slice ga es.length cg) := bcell hS.st.sb rfl; have c3 : W.cell? ⟨w.heap.size + 1, 3, none⟩ = some (.slice ha ms.length ch) := bcell hS.st.sb rfl; simp [execOp, go_sem, Act.eval, dk.sets_get, List.lookup, c0, c1, c2, c3]), ?_⟩
            refine ⟨cht.quiet 7 rfl (by decide) (.inl rfl) (by simp) (fun s => .pointer (some ⟨p, 0, none⟩)) (by rintro s _ ⟨⟩; exact dk.sets_on _ (by simp) _ rfl) (fun s k' W hk' hS => by simp [execOp, go_sem, Act.eval, dk.sets_get, List.lookup]), ?_⟩
            refine ⟨chd.eff 0 [2, 3, 5, 8, 9, 10, 11, 12, 13, 14] [39] (by kernel_rfl) (by kernel_rfl) rfl (by decide) rfl (.inl rfl) (by simp) (fun s W hS => by exact ⟨{ s with a := W.heap.size }, .slice (some ⟨W.heap.size, 0, none⟩) 2 2, W.alloc (.cells (keys2.map Value.string).toArray 9), (by simp [chd.But]), (by rintro _ ⟨⟩; exact dk.sets_on _ (by simp) _ rfl), (by simp [execOp, go_sem, Act.eval, dk.sets_get, List.lookup, keys2]), hS.step (by decide) ((Below.refl _ _).alloc (Nat.le_refl _) _) ⟨fun _ => ⟨(by have := hS.st.size; have := hS.st.hp; show p ≠ W.heap.size; omega), at_texts W keys2 _⟩, fun h => (by omega), fun h => (by omega), fun h => (by omega), fun h => (by omega)⟩⟩), ?_⟩
            refine ⟨chd.call 1 [3, 5, 8, 9, 10, 11, 12, 13, 14] [40] (by kernel_rfl) (by kernel_rfl) rfl (by decide) rfl (.inr ⟨⟨2, .data⟩, by simp, rfl, rfl⟩) (by simp) 45 (fun s => #[.pointer (some ⟨p, 0, none⟩), .slice (some ⟨s.a, 0, none⟩) 2 2]) (fun s W hS => by exact ⟨by simp [go_sem, Act.eval, dk.sets_get, List.lookup], (draw_pick p a len cap s.a 2 keys2 W (by omega) (Ne.symm (hS.pre.1 rfl).1) (hS.pre.1 rfl).2 hS.st.cur).mono fun e w9 hh => by obtain ⟨⟨z9, hz9, rfl⟩, k1, k2⟩ := hh; exact ⟨{ s with u := z9 }, _, rfl, (by simp [chd.But]), (by rintro _ ⟨⟩; exact dk.sets_on _ (by simp) _ rfl), hS.draw (by decide) (by omega) k1 k2 (⟨fun h => (by omega), fun _ => keys2_in z9 hz9, fun h => (by omega), fun h => (by omega), fun h => (by omega)⟩)⟩⟩), ?_⟩
            refine ⟨cht.quiet 7 rfl (by decide) (.inl rfl) (by simp) (fun s => .pointer (some ⟨p, 0, none⟩)) (by rintro s _ ⟨⟩; exact dk.sets_on _ (by simp) _ rfl) (fun s k' W hk' hS => by simp [execOp, go_sem, Act.eval, dk.sets_get, List.lookup]), ?_⟩
            refine ⟨chd.call 2 [5, 8, 9, 10, 11, 12, 13, 14] [42] (by kernel_rfl) (by kernel_rfl) rfl (by decide) rfl (.inr ⟨⟨3, .chain⟩, by simp, rfl, rfl⟩) (by simp) 65 (fun s => #[.pointer (some ⟨p, 0, none⟩)]) (fun s W hS => by exact ⟨by simp [go_sem, Act.eval, dk.sets_get, List.lookup], (dpl.draw_plain p a len cap W hS.st.cur).mono fun e w9 hh => by obtain ⟨⟨z9, hz9, rfl⟩, k1, k2⟩ := hh; exact ⟨{ s with t := z9 }, _, rfl, (by simp [chd.But]), (by rintro _ ⟨⟩; exact dk.sets_on _ (by simp) _ rfl), hS.draw (by decide) (by omega) k1 k2 (⟨fun h => (by omega), fun _ => hS.pre.2.1 (by omega), fun _ => hz9, fun h => (by omega), fun h => (by omega)⟩)⟩⟩), ?_⟩
            refine ⟨cht.quiet 7 rfl (by decide) (.inl rfl) (by simp) (fun s => .pointer (some ⟨p, 0, none⟩)) (by rintro s _ ⟨⟩; exact dk.sets_on _ (by simp) _ rfl) (fun s k' W hk' hS => by simp [execOp, go_sem, Act.eval, dk.sets_get, List.lookup]), ?_⟩
            refine ⟨cht.quiet 7 rfl (by decide) (.inl rfl) (by simp) (fun s => .pointer (some ⟨p, 0, none⟩)) (by rintro s _ ⟨⟩; exact dk.sets_on _ (by simp) _ rfl) (fun s k' W hk' hS => by simp [execOp, go_sem, Act.eval, dk.sets_get, List.lookup]), ?_⟩
            refine ⟨chd.call 3 [8, 9, 10, 11, 12, 13, 14] [45] (by kernel_rfl) (by kernel_rfl) rfl (by decide) rfl (.inr ⟨⟨5, .chain⟩, by simp, rfl, rfl⟩) (by simp) 49 (fun s => #[.pointer (some ⟨p, 0, none⟩), .int .i64 5]) (fun s W hS => by exact ⟨by simp [go_sem, Act.eval, dk.sets_get, List.lookup], (draw_below p a len cap 5 W (by omega) hS.st.cur).mono fun e w9 hh => by obtain ⟨⟨z9, hz9, rfl⟩, k1, k2⟩ := hh; exact ⟨{ s with x := z9 }, _, rfl, (by simp [chd.But]), (by rintro _ ⟨⟩; exact dk.sets_on _ (by simp) _ rfl), hS.draw (by decide) (by omega) k1 k2 (⟨fun h => (by omega), fun _ => hS.pre.2.1 (by omega), fun _ => hS.pre.2.2.1 (by omega), fun _ => hz9, fun h => (by omega)⟩)⟩⟩), ?_⟩
            refine ⟨chd.call 4 [9, 10, 11, 12, 13, 14] [46] (by kernel_rfl) (by kernel_rfl) rfl (by decide) rfl (.inr ⟨⟨8, .data⟩, by simp, rfl, rfl⟩) (by simp) 48 (fun s => #[.pointer (some ⟨p, 0, none⟩), .int .i64 s.x]) (fun s W hS => by exact ⟨by simp [go_sem, Act.eval, dk.sets_get, List.lookup], (draw_bytes p a len cap s.x W (by have := hS.pre.2.2.2.1 rfl; omega) hS.st.cur).mono fun e w9 hh => by obtain ⟨⟨z9, hz9, rfl⟩, k1, k2⟩ := hh; exact ⟨{ s with c := z9 }, _, rfl, (by simp [chd.But]), (by rintro _ ⟨⟩; exact dk.sets_on _ (by simp) _ rfl), hS.draw (by decide) (by omega) k1 k2 (⟨fun h => (by omega), fun _ => hS.pre.2.1 (by omega), fun _ => hS.pre.2.2.1 (by omega), fun h => (by omega), fun _ => (by have h9 := hS.pre.2.2.2.1 rfl; show z9.size ≤ 5; omega)⟩)⟩⟩), ?_⟩
            refine ⟨chd.call 5 [10, 11, 12, 13, 14] [47, 36, 48, 49] (by kernel_rfl) (by kernel_rfl) rfl (by decide) rfl (.inr ⟨⟨9, .data⟩, by simp, rfl, rfl⟩) (by simp) 15 (fun s => #[.agg #[.string sn, .int .i64 nx, .slice ga es.length cg, .slice ha ms.length ch], .string s.u, .string s.t, .string s.c]) (fun s W hS => by exact ⟨by simp [go_sem, Act.eval, dk.sets_get, List.lookup], (hS.st.pushQ HSM.out HNX.out (by omega) s.u s.t s.c (by have h1 := hS.pre.2.1 (by omega); have h2 := hS.pre.2.2.1 (by omega); have h3 := hS.pre.2.2.2.2 (by omega); omega)).mono fun e w9 hh => by obtain ⟨⟨v9, b9, rfl, hn9⟩, k1⟩ := hh; exact ⟨{ s with v := v9, b := b9 }, _, rfl, (by simp [chd.But]), (by rintro _ ⟨⟩; exact dk.sets_on _ (by simp) _ rfl), hS.last (by decide) k1 hn9 (⟨fun h => (by omega), fun _ => hS.pre.2.1 (by omega), fun _ => hS.pre.2.2.1 (by omega), fun h => (by omega), fun _ => hS.pre.2.2.2.2 (by omega)⟩)⟩⟩), ?_⟩
            refine ⟨cht.quiet 7 rfl (by decide) (.inl rfl) (by simp) (fun s => .tuple #[s.v, .bool s.b]) (by rintro s _ ⟨⟩; exact dk.sets_on _ (by simp) _ rfl) (fun s k' W hk' hS => by simp [execOp, go_sem, Act.eval, dk.sets_get, List.lookup]), ?_⟩
            refine ⟨cht.quiet 7 rfl (by decide) (.inl rfl) (by simp) (fun s => s.v) (by rintro s _ ⟨⟩; exact dk.sets_on _ (by simp) _ rfl) (fun s k' W hk' hS => by simp [execOp, go_sem, Act.eval, dk.sets_get, List.lookup]), ?_⟩
            refine ⟨cht.quiet 7 rfl (by decide) (.inl rfl) (by simp) (fun s => .bool s.b) (by rintro s _ ⟨⟩; exact dk.sets_on _ (by simp) _ rfl) (fun s k' W hk' hS => by simp [execOp, go_sem, Act.eval, dk.sets_get, List.lookup]), ?_⟩
            exact ⟨cht.sto 6 rfl (by decide) rfl (.inr ⟨⟨10, .chain⟩, by simp, rfl, rfl⟩) (by simp) rfl (fun s W hS => by obtain ⟨sn', nx', es', ms', ga', cg', ha', ch', hv, ⟨c0, c1, c2, c3⟩, hf, hS'⟩ := hS.sto (by omega) (fun _ => ⟨fun h => (by omega), fun _ => hS.pre.2.1 (by omega), fun _ => hS.pre.2.2.1 (by omega), fun h => (by omega), fun _ => hS.pre.2.2.2.2 (by omega)⟩); have f0 := hf 0; have f1 := hf 1; have f2 := hf 2; have f3 := hf 3; exact ⟨res4 W wr.heap.size (.string sn') (.int .i64 nx') (.slice ga' es'.length cg') (.slice ha' ms'.length ch'), by simp [execOp, go_sem, Act.eval, dk.sets_get, List.lookup, hv, c0, c1, c2, c3, f0, f1, f2, f3, res4], hS'⟩), trivial⟩
          · intro s x5 hS
            have HT5 : Hid (St p a len cap w sn nx es ms ga cg ha ch x5) := hS.st
            obtain ⟨sn', nx', es', ms', ga', cg', ha', ch', hb5, ⟨hsm5, hn5, hm5⟩, hd5⟩ := hS.fin rfl
            have HSM5 : Hid (Sm (j + 1) sn' es' ms') := hsm5
            have HD5 : Hid (Tq (w.heap.size + 2) x5 es' ms' ga' cg' ha' ch') := hd5
            have HN5 : Hid (1 ≤ nx' ∧ nx' ≤ ((j + 1 : Nat) : Int) + 1) := ⟨hn5, by omega⟩
            have b0 : x5.cell? ⟨wr.heap.size, 0, none⟩ = some (.string sn') := bcell hb5 rfl
            have b1 : x5.cell? ⟨wr.heap.size, 1, none⟩ = some (.int .i64 nx') := bcell hb5 rfl
            have b2 : x5.cell? ⟨wr.heap.size, 2, none⟩ = some (.slice ga' es'.length cg') := bcell hb5 rfl
            have b3 : x5.cell? ⟨wr.heap.size, 3, none⟩ = some (.slice ha' ms'.length ch') := bcell hb5 rfl
            have c0 : x5.cell? ⟨w.heap.size + 1, 0, none⟩ = some (.string sn) := bcell HT5.out.sb rfl
            have c1 : x5.cell? ⟨w.heap.size + 1, 1, none⟩ = some (.int .i64 nx) := bcell HT5.out.sb rfl
            have c2 : x5.cell? ⟨w.heap.size + 1, 2, none⟩ = some (.slice ga es.length cg) := bcell HT5.out.sb rfl
            have c3 : x5.cell? ⟨w.heap.size + 1, 3, none⟩ = some (.slice ha ms.length ch) := bcell HT5.out.sb rfl
            have e0 := bfree HT5.out.sb 0
            have e1 := bfree HT5.out.sb 1
            have e2 := bfree HT5.out.sb 2
            have e3 := bfree HT5.out.sb 3
            obtain ⟨sx, sy, sA, sT, sU, sC, sN, sV, sM, sB⟩ := s
            clear hS hb5 hsm5 hn5 hm5 hd5
            simp only [dk.sets, Act.put, List.setIfInBounds_toArray, List.set_cons_succ, List.set_cons_zero]
            go_wp2
            go_roundw
            case rel => exact ⟨j + 1, tg, sn', nx', es', ms', ga', cg', ha', ch', by omega, by omega, by go_num, by go_num, HSM5.out, HN5.out, St.put HT5.out HD5.out⟩
            case measure => simp [intOf]; omega
      by_cases z5 : z < 5
      · obtain rfl | rfl : z = 3 ∨ z = 4 := by omega
        all_goals
          go_wp2
          refine cht.region (σ := G) (ws := (fun s : G => [(56, .agg #[.string sn, .int .i64 nx, .slice ga es.length cg, .slice ha ms.length ch]), (57, .pointer (some ⟨p, 0, none⟩)), (58, .int .i64 s.x), (59, .int .i64 ((tg : Int) + 1)), (60, .tuple #[s.v, s.m, .bool s.b]), (55, .tuple #[s.v, s.m, .bool s.b]), (61, s.v), (62, s.m), (63, .bool s.b)])) (js := [2, 4, 9]) (S := (fun g k W => Sx p a len cap w sn nx es ms ga cg ha ch wr.heap.size j 2 (fun g k W => True) g k W)) [56, 57, 58, 59, 60, 55, 61, 62, 63] ⟨0, 0, 0, ⟨#[]⟩, ⟨#[]⟩, ⟨#[]⟩, 0, undef, undef, false⟩ (by kernel_rfl) (by kernel_rfl) (fun _ => rfl) (by kernel_rfl) (by decide) ⟨HT1.out.step (Below.refl _ _).drew, trivial, fun _ => bstay HN1.out (Below.refl _ _).drew (by have := (Array.getElem?_eq_some_iff.1 HN1.out).1; omega), fun e => (by omega), fun e => (by omega)⟩ ?_ ?_
          · refine ⟨cht.quiet 3 rfl (by decide) (.inl rfl) (by simp) (fun s => .agg #[.string sn, .int .i64 nx, .slice ga es.length cg, .slice ha ms.length ch]) (by rintro s _ ⟨⟩; exact dk.sets_on _ (by simp) _ rfl) (fun s k' W hk' hS => by have c0 : W.cell? ⟨w.heap.size + 1, 0, none⟩ = some (.string sn) := bcell hS.st.sb rfl; have c1 : W.cell? ⟨w.heap.size + 1, 1, none⟩ = some (.int .i64 nx) := bcell hS.st.sb rfl; have c2 : W.cell? ⟨w.heap.size + 1, 2, none⟩ = some (.slice ga es.length cg) := bcell hS.st.sb rfl; have c3 : W.cell? ⟨w.heap.size + 1, 3, none⟩ = some (.slice ha ms.length ch) := bcell hS.st.sb rfl; simp [execOp, go_sem, Act.eval, dk.sets_get, List.lookup, c0, c1, c2, c3]), ?_⟩
            refine ⟨cht.quiet 3 rfl (by decide) (.inl rfl) (by simp) (fun s => .pointer (some ⟨p, 0, none⟩)) (by rintro s _ ⟨⟩; exact dk.sets_on _ (by simp) _ rfl) (fun s k' W hk' hS => by simp [execOp, go_sem, Act.eval, dk.sets_get, List.lookup]), ?_⟩
            refine ⟨chd.call 0 [2, 4, 5, 6, 7, 8, 9] [58] (by kernel_rfl) (by kernel_rfl) rfl (by decide) rfl (.inl rfl) (by simp) 49 (fun s => #[.pointer (some ⟨p, 0, none⟩), .int .i64 2]) (fun s W hS => by exact ⟨by simp [go_sem, Act.eval, dk.sets_get, List.lookup], (draw_below p a len cap 2 W (by omega) hS.st.cur).mono fun e w9 hh => by obtain ⟨⟨z9, hz9, rfl⟩, k1, k2⟩ := hh; exact ⟨{ s with x := z9 }, _, rfl, (by simp [chd.But]), (by rintro _ ⟨⟩; exact dk.sets_on _ (by simp) _ rfl), hS.draw (by decide) (by omega) k1 k2 (trivial)⟩⟩), ?_⟩
            refine ⟨cht.quiet 3 rfl (by decide) (.inl rfl) (by simp) (fun s => .int .i64 ((tg : Int) + 1)) (by rintro s _ ⟨⟩; exact dk.sets_on _ (by simp) _ rfl) (fun s k' W hk' hS => by simp [execOp, go_sem, Act.eval, dk.sets_get, List.lookup]), ?_⟩
            refine ⟨chd.call 1 [4, 5, 6, 7, 8, 9] [60, 55, 61, 62, 63] (by kernel_rfl) (by kernel_rfl) rfl (by decide) rfl (.inr ⟨⟨2, .chain⟩, by simp, rfl, rfl⟩) (by simp) 18 (fun s => #[.agg #[.string sn, .int .i64 nx, .slice ga es.length cg, .slice ha ms.length ch], .int .i64 s.x, .int .i64 ((tg : Int) + 1)]) (fun s W hS => by exact ⟨by simp [go_sem, Act.eval, dk.sets_get, List.lookup], (hS.st.popQ HSM.out HNX.out (by omega) s.x ((tg : Int) + 1)).mono fun e w9 hh => by obtain ⟨⟨v9, m9, b9, rfl, hn9⟩, k1⟩ := hh; exact ⟨{ s with v := v9, m := m9, b := b9 }, _, rfl, (by simp [chd.But]), (by rintro _ ⟨⟩; exact dk.sets_on _ (by simp) _ rfl), hS.last (by decide) k1 hn9 (trivial)⟩⟩), ?_⟩
            refine ⟨cht.quiet 3 rfl (by decide) (.inl rfl) (by simp) (fun s => .tuple #[s.v, s.m, .bool s.b]) (by rintro s _ ⟨⟩; exact dk.sets_on _ (by simp) _ rfl) (fun s k' W hk' hS => by simp [execOp, go_sem, Act.eval, dk.sets_get, List.lookup]), ?_⟩
            refine ⟨cht.quiet 3 rfl (by decide) (.inl rfl) (by simp) (fun s => s.v) (by rintro s _ ⟨⟩; exact dk.sets_on _ (by simp) _ rfl) (fun s k' W hk' hS => by simp [execOp, go_sem, Act.eval, dk.sets_get, List.lookup]), ?_⟩
            refine ⟨cht.quiet 3 rfl (by decide) (.inl rfl) (by simp) (fun s => s.m) (by rintro s _ ⟨⟩; exact dk.sets_on _ (by simp) _ rfl) (fun s k' W hk' hS => by simp [execOp, go_sem, Act.eval, dk.sets_get, List.lookup]), ?_⟩
            refine ⟨cht.quiet 3 rfl (by decide) (.inl rfl) (by simp) (fun s => .bool s.b) (by rintro s _ ⟨⟩; exact dk.sets_on _ (by simp) _ rfl) (fun s k' W hk' hS => by simp [execOp, go_sem, Act.eval, dk.sets_get, List.lookup]), ?_⟩
            exact ⟨cht.sto 2 rfl (by decide) rfl (.inr ⟨⟨4, .chain⟩, by simp, rfl, rfl⟩) (by simp) rfl (fun s W hS => by obtain ⟨sn', nx', es', ms', ga', cg', ha', ch', hv, ⟨c0, c1, c2, c3⟩, hf, hS'⟩ := hS.sto (by omega) (fun _ => trivial); have f0 := hf 0; have f1 := hf 1; have f2 := hf 2; have f3 := hf 3; exact ⟨res4 W wr.heap.size (.string sn') (.int .i64 nx') (.slice ga' es'.length cg') (.slice ha' ms'.length ch'), by simp [execOp, go_sem, Act.eval, dk.sets_get, List.lookup, hv, c0, c1, c2, c3, f0, f1, f2, f3, res4], hS'⟩), trivial⟩
          · intro s x5 hS
            have HT5 : Hid (St p a len cap w sn nx es ms ga cg ha ch x5) := hS.st
            obtain ⟨sn', nx', es', ms', ga', cg', ha', ch', hb5, ⟨hsm5, hn5, hm5⟩, hd5⟩ := hS.fin rfl
            have HSM5 : Hid (Sm (j + 1) sn' es' ms') := hsm5
            have HD5 : Hid (Tq (w.heap.size + 2) x5 es' ms' ga' cg' ha' ch') := hd5
            have HN5 : Hid (1 ≤ nx' ∧ nx' ≤ ((j + 1 : Nat) : Int) + 1) := ⟨hn5, by omega⟩
            have b0 : x5.cell? ⟨wr.heap.size, 0, none⟩ = some (.string sn') := bcell hb5 rfl
            have b1 : x5.cell? ⟨wr.heap.size, 1, none⟩ = some (.int .i64 nx') := bcell hb5 rfl
            have b2 : x5.cell? ⟨wr.heap.size, 2, none⟩ = some (.slice ga' es'.length cg') := bcell hb5 rfl
            have b3 : x5.cell? ⟨wr.heap.size, 3, none⟩ = some (.slice ha' ms'.length ch') := bcell hb5 rfl
            have c0 : x5.cell? ⟨w.heap.size + 1, 0, none⟩ = some (.string sn) := bcell HT5.out.sb rfl
            have c1 : x5.cell? ⟨w.heap.size + 1, 1, none⟩ = some (.int .i64 nx) := bcell HT5.out.sb rfl
            have c2 : x5.cell? ⟨w.heap.size + 1, 2, none⟩ = some (.slice ga es.length cg) := bcell HT5.out.sb rfl
            have c3 : x5.cell? ⟨w.heap.size + 1, 3, none⟩ = some (.slice ha ms.length ch) := bcell HT5.out.sb rfl
            have e0 := bfree HT5.out.sb 0
            have e1 := bfree HT5.out.sb 1
            have e2 := bfree HT5.out.sb 2
            have e3 := bfree HT5.out.sb 3
            obtain ⟨sx, sy, sA, sT, sU, sC, sN, sV, sM, sB⟩ := s
            clear hS hb5 hsm5 hn5 hm5 hd5
            simp only [dk.sets, Act.put, List.setIfInBounds_toArray, List.set_cons_succ, List.set_cons_zero]
            go_wp2
            go_roundw
            case rel => exact ⟨j + 1, tg + 1, sn', nx', es', ms', ga', cg', ha', ch', by omega, by omega, by go_num, by go_num, HSM5.out, HN5.out, St.put HT5.out HD5.out⟩
            case measure => simp [intOf]; omega
      obtain rfl : z = 5 := by omega
      go_wp2
      refine cht.region (σ := G) (ws := (fun s : G => [(20, .agg #[.string sn, .int .i64 nx, .slice ga es.length cg, .slice ha ms.length ch]), (21, .pointer (some ⟨p, 0, none⟩)), (22, .int .i64 s.x), (23, .int .i64 tg), (24, .pointer (some ⟨p, 0, none⟩)), (25, .int .i64 s.y), (26, .int .i64 ((tg : Int) - s.y)), (27, .pointer (some ⟨p, 0, none⟩)), (28, .bool s.b), (29, .tuple #[s.v, .int .i64 s.n]), (19, .tuple #[s.v, .int .i64 s.n]), (30, s.v), (31, .int .i64 s.n)])) (js := [2, 5, 8, 9, 13]) (S := (fun g k W => Sx p a len cap w sn nx es ms ga cg ha ch wr.heap.size j 4 (fun g k W => g.y < 3) g k W)) [20, 21, 22, 23, 24, 25, 26, 27, 28, 29, 19, 30, 31] ⟨0, 0, 0, ⟨#[]⟩, ⟨#[]⟩, ⟨#[]⟩, 0, undef, undef, false⟩ (by kernel_rfl) (by kernel_rfl) (fun _ => rfl) (by kernel_rfl) (by decide) ⟨HT1.out.step (Below.refl _ _).drew, (by decide), fun _ => bstay HN1.out (Below.refl _ _).drew (by have := (Array.getElem?_eq_some_iff.1 HN1.out).1; omega), fun e => (by omega), fun e => (by omega)⟩ ?each ?fin
      case each =>
        refine ⟨cht.quiet 5 rfl (by decide) (.inl rfl) (by simp) (fun s => .agg #[.string sn, .int .i64 nx, .slice ga es.length cg, .slice ha ms.length ch]) (by rintro s _ ⟨⟩; exact dk.sets_on _ (by simp) _ rfl) (fun s k' W hk' hS => by have c0 : W.cell? ⟨w.heap.size + 1, 0, none⟩ = some (.string sn) := bcell hS.st.sb rfl; have c1 : W.cell? ⟨w.heap.size + 1, 1, none⟩ = some (.int .i64 nx) := bcell hS.st.sb rfl; have c2 : W.cell? ⟨w.heap.size + 1, 2, none⟩ = some (.slice ga es.length cg) := bcell hS.st.sb rfl; have c3 : W.cell? ⟨w.heap.size + 1, 3, none⟩ = some (.slice ha ms.length ch) := bcell hS.st.sb rfl; simp [execOp, go_sem, Act.eval, dk.sets_get, List.lookup, c0, c1, c2, c3]), ?_⟩
        refine ⟨cht.quiet 5 rfl (by decide) (.inl rfl) (by simp) (fun s => .pointer (some ⟨p, 0, none⟩)) (by rintro s _ ⟨⟩; exact dk.sets_on _ (by simp) _ rfl) (fun s k' W hk' hS => by simp [execOp, go_sem, Act.eval, dk.sets_get, List.lookup]), ?_⟩
        refine ⟨chd.call 0 [2, 5, 6, 8, 9, 10, 11, 12, 13] [22] (by kernel_rfl) (by kernel_rfl) rfl (by decide) rfl (.inl rfl) (by simp) 49 (fun s => #[.pointer (some ⟨p, 0, none⟩), .int .i64 2]) (fun s W hS => by exact ⟨by simp [go_sem, Act.eval, dk.sets_get, List.lookup], (draw_below p a len cap 2 W (by omega) hS.st.cur).mono fun e w9 hh => by obtain ⟨⟨z9, hz9, rfl⟩, k1, k2⟩ := hh; exact ⟨{ s with x := z9 }, _, rfl, (by simp [chd.But]), (by rintro _ ⟨⟩; exact dk.sets_on _ (by simp) _ rfl), hS.draw (by decide) (by omega) k1 k2 (hS.pre)⟩⟩), ?_⟩
        refine ⟨cht.quiet 5 rfl (by decide) (.inl rfl) (by simp) (fun s => .int .i64 tg) (by rintro s _ ⟨⟩; exact dk.sets_on _ (by simp) _ rfl) (fun s k' W hk' hS => by simp [execOp, go_sem, Act.eval, dk.sets_get, List.lookup]), ?_⟩
        refine ⟨cht.quiet 5 rfl (by decide) (.inl rfl) (by simp) (fun s => .pointer (some ⟨p, 0, none⟩)) (by rintro s _ ⟨⟩; exact dk.sets_on _ (by simp) _ rfl) (fun s k' W hk' hS => by simp [execOp, go_sem, Act.eval, dk.sets_get, List.lookup]), ?_⟩
        refine ⟨chd.call 1 [5, 6, 8, 9, 10, 11, 12, 13] [25, 26] (by kernel_rfl) (by kernel_rfl) rfl (by decide) rfl (.inr ⟨⟨2, .chain⟩, by simp, rfl, rfl⟩) (by simp) 49 (fun s => #[.pointer (some ⟨p, 0, none⟩), .int .i64 3]) (fun s W hS => by exact ⟨by simp [go_sem, Act.eval, dk.sets_get, List.lookup], (draw_below p a len cap 3 W (by omega) hS.st.cur).mono fun e w9 hh => by obtain ⟨⟨z9, hz9, rfl⟩, k1, k2⟩ := hh; exact ⟨{ s with y := z9 }, _, rfl, (by simp [chd.But]), (by rintro _ ⟨⟩; exact dk.sets_on _ (by simp) _ rfl), hS.draw (by decide) (by omega) k1 k2 (hz9)⟩⟩), ?_⟩
        refine ⟨cht.quiet 5 rfl (by decide) (.inl rfl) (by simp) (fun s => .int .i64 ((tg : Int) - s.y)) (by rintro s _ ⟨⟩; exact dk.sets_on _ (by simp) _ rfl) (fun s k' W hk' hS => by have h9 := hS.pre; have hwr : IntKind.i64.wrap ((tg : Int) - s.y) = (tg : Int) - s.y := (by rw [IntKind.wrap_i64]; omega); simp [execOp, go_sem, Act.eval, dk.sets_get, List.lookup, hwr]), ?_⟩
        refine ⟨cht.quiet 5 rfl (by decide) (.inl rfl) (by simp) (fun s => .pointer (some ⟨p, 0, none⟩)) (by rintro s _ ⟨⟩; exact dk.sets_on _ (by simp) _ rfl) (fun s k' W hk' hS => by simp [execOp, go_sem, Act.eval, dk.sets_get, List.lookup]), ?_⟩
        refine ⟨chd.call 2 [8, 9, 10, 11, 12, 13] [28] (by kernel_rfl) (by kernel_rfl) rfl (by decide) rfl (.inr ⟨⟨5, .chain⟩, by simp, rfl, rfl⟩) (by simp) 47 (fun s => #[.pointer (some ⟨p, 0, none⟩), .int .i64 2]) (fun s W hS => by exact ⟨by simp [go_sem, Act.eval, dk.sets_get, List.lookup], (draw_once p a len cap 2 W (by omega) hS.st.cur).mono fun e w9 hh => by obtain ⟨⟨z9, rfl⟩, k1, k2⟩ := hh; exact ⟨{ s with b := z9 }, _, rfl, (by simp [chd.But]), (by rintro _ ⟨⟩; exact dk.sets_on _ (by simp) _ rfl), hS.draw (by decide) (by omega) k1 k2 (hS.pre)⟩⟩), ?_⟩
        refine ⟨chd.call 3 [9, 10, 11, 12, 13] [29, 19, 30, 31] (by kernel_rfl) (by kernel_rfl) rfl (by decide) rfl (.inr ⟨⟨8, .data⟩, by simp, rfl, rfl⟩) (by simp) 7 (fun s => #[.agg #[.string sn, .int .i64 nx, .slice ga es.length cg, .slice ha ms.length ch], .int .i64 s.x, .int .i64 ((tg : Int) - s.y), .bool s.b]) (fun s W hS => by exact ⟨by simp [go_sem, Act.eval, dk.sets_get, List.lookup], (hS.st.retQ HSM.out HNX.out (by omega) s.x ((tg : Int) - s.y) s.b).mono fun e w9 hh => by obtain ⟨⟨v9, n9, rfl, hn9⟩, k1⟩ := hh; exact ⟨{ s with v := v9, n := n9 }, _, rfl, (by simp [chd.But]), (by rintro _ ⟨⟩; exact dk.sets_on _ (by simp) _ rfl), hS.last (by decide) k1 hn9 (hS.pre)⟩⟩), ?_⟩
        refine ⟨cht.quiet 5 rfl (by decide) (.inl rfl) (by simp) (fun s => .tuple #[s.v, .int .i64 s.n]) (by rintro s _ ⟨⟩; exact dk.sets_on _ (by simp) _ rfl) (fun s k' W hk' hS => by simp [execOp, go_sem, Act.eval, dk.sets_get, List.lookup]), ?_⟩
        refine ⟨cht.quiet 5 rfl (by decide) (.inl rfl) (by simp) (fun s => s.v) (by rintro s _ ⟨⟩; exact dk.sets_on _ (by simp) _ rfl) (fun s k' W hk' hS => by simp [execOp, go_sem, Act.eval, dk.sets_get, List.lookup]), ?_⟩
        refine ⟨cht.quiet 5 rfl (by decide) (.inl rfl) (by simp) (fun s => .int .i64 s.n) (by rintro s _ ⟨⟩; exact dk.sets_on _ (by simp) _ rfl) (fun s k' W hk' hS => by simp [execOp, go_sem, Act.eval, dk.sets_get, List.lookup]), ?_⟩
        exact ⟨cht.sto 4 rfl (by decide) rfl (.inr ⟨⟨9, .chain⟩, by simp, rfl, rfl⟩) (by simp) rfl (fun s W hS => by obtain ⟨sn', nx', es', ms', ga', cg', ha', ch', hv, ⟨c0, c1, c2, c3⟩, hf, hS'⟩ := hS.sto (by omega) (fun _ => hS.pre); have f0 := hf 0; have f1 := hf 1; have f2 := hf 2; have f3 := hf 3; exact ⟨res4 W wr.heap.size (.string sn') (.int .i64 nx') (.slice ga' es'.length cg') (.slice ha' ms'.length ch'), by simp [execOp, go_sem, Act.eval, dk.sets_get, List.lookup, hv, c0, c1, c2, c3, f0, f1, f2, f3, res4], hS'⟩), trivial⟩
      case fin =>
        intro s x5 hS
        have HT5 : Hid (St p a len cap w sn nx es ms ga cg ha ch x5) := hS.st
        obtain ⟨sn', nx', es', ms', ga', cg', ha', ch', hb5, ⟨hsm5, hn5, hm5⟩, hd5⟩ := hS.fin rfl
        have HSM5 : Hid (Sm (j + 1) sn' es' ms') := hsm5
        have HD5 : Hid (Tq (w.heap.size + 2) x5 es' ms' ga' cg' ha' ch') := hd5
        have HN5 : Hid (1 ≤ nx' ∧ nx' ≤ ((j + 1 : Nat) : Int) + 1) := ⟨hn5, by omega⟩
        have b0 : x5.cell? ⟨wr.heap.size, 0, none⟩ = some (.string sn') := bcell hb5 rfl
        have b1 : x5.cell? ⟨wr.heap.size, 1, none⟩ = some (.int .i64 nx') := bcell hb5 rfl
        have b2 : x5.cell? ⟨wr.heap.size, 2, none⟩ = some (.slice ga' es'.length cg') := bcell hb5 rfl
        have b3 : x5.cell? ⟨wr.heap.size, 3, none⟩ = some (.slice ha' ms'.length ch') := bcell hb5 rfl
        have c0 : x5.cell? ⟨w.heap.size + 1, 0, none⟩ = some (.string sn) := bcell HT5.out.sb rfl
        have c1 : x5.cell? ⟨w.heap.size + 1, 1, none⟩ = some (.int .i64 nx) := bcell HT5.out.sb rfl
        have c2 : x5.cell? ⟨w.heap.size + 1, 2, none⟩ = some (.slice ga es.length cg) := bcell HT5.out.sb rfl
        have c3 : x5.cell? ⟨w.heap.size + 1, 3, none⟩ = some (.slice ha ms.length ch) := bcell HT5.out.sb rfl
        have e0 := bfree HT5.out.sb 0
        have e1 := bfree HT5.out.sb 1
        have e2 := bfree HT5.out.sb 2
        have e3 := bfree HT5.out.sb 3
        obtain ⟨sx, sy, sA, sT, sU, sC, sN, sV, sM, sB⟩ := s
        clear hS hb5 hsm5 hn5 hm5 hd5
        simp only [dk.sets, Act.put, List.setIfInBounds_toArray, List.set_cons_succ, List.set_cons_zero]
        go_wp2
        go_roundw
        case rel => exact ⟨j + 1, tg, sn', nx', es', ms', ga', cg', ha', ch', by omega, by omega, by go_num, by go_num, HSM5.out, HN5.out, St.put HT5.out HD5.out⟩
        case measure => simp [intOf]; omega
    · obtain rfl : j = n := by omega
      have hsb := hst.out.size
      have g1 := draw_below p a len cap 20 wr (by omega) hst.out.cur
      go_wp2_with (go_at_call 49; fail)
      refine g1.mono ?_
      rintro e x1 ⟨⟨z, hz, rfl⟩, hd1, hf1⟩
      have HT1 : Hid (St p a len cap w sn nx es ms ga cg ha ch x1) := hst.out.draw hd1 hf1
      have hs1 := HT1.out.size
      have hyt := HSM.out.tt
      have hnx := HNX.out
      have hms15 : ms.length ≤ 15 := by omega
      have hes15 : es.length ≤ 15 := by omega
      have HSM2 : Hid (Sm 520 sn es ms) := HSM.out.more (by omega)
      clear g1 hd1 hf1 hst HSM HNX hyt
      by_cases z0 : z = 0
      · subst z0
        have c1 : x1.cell? ⟨w.heap.size + 1, 1, none⟩ = some (.int .i64 nx) := bcell HT1.out.sb rfl
        have hwr : IntKind.i64.wrap (nx + 5) = nx + 5 := by rw [IntKind.wrap_i64]; omega
        have g2 := draw_pick_int p a len cap x1.heap.size 5 [0, 1, nx + 5, 1000000000, 1000000001] _ (by omega) (by omega) (at_list x1 [0, 1, nx + 5, 1000000000, 1000000001] 3) (HT1.out.alloc _).cur
        go_wp2_with (go_at_call 52; fail)
        refine g2.mono ?_
        rintro e x2 ⟨⟨v, hv, rfl⟩, hd2, hf2⟩
        have HT2 : Hid (St p a len cap w sn nx es ms ga cg ha ch x2) := (HT1.out.alloc _).draw hd2 hf2
        have k1 : x2.cell? ⟨w.heap.size + 1, 1, none⟩ = some (.int .i64 nx) := bcell HT2.out.sb rfl
        have k1f := bfree HT2.out.sb 1
        have HT3 := HT2.out.next v
        obtain ⟨x3, hx3⟩ : ∃ x3, x2.setCell ⟨w.heap.size + 1, 1, none⟩ (.int .i64 v) = x3 := ⟨_, rfl⟩
        rw [hx3] at HT3
        have HTT : Hid (St p a len cap w sn v es ms ga cg ha ch x3) := HT3
        clear g2 hd2 hf2 hv HT2 HT3 HT1 c1
        have c0 : x3.cell? ⟨w.heap.size + 1, 0, none⟩ = some (.string sn) := bcell HTT.out.sb rfl
        have c1 : x3.cell? ⟨w.heap.size + 1, 1, none⟩ = some (.int .i64 v) := bcell HTT.out.sb rfl
        have c2 : x3.cell? ⟨w.heap.size + 1, 2, none⟩ = some (.slice ga es.length cg) := bcell HTT.out.sb rfl
        have c3 : x3.cell? ⟨w.heap.size + 1, 3, none⟩ = some (.slice ha ms.length ch) := bcell HTT.out.sb rfl
        have q0 : x3.cell? ⟨w.heap.size, 0, none⟩ = some (.string ⟨#[]⟩) := bcell HTT.out.rb rfl
        have q1 : x3.cell? ⟨w.heap.size, 1, none⟩ = some (.int .i64 0) := bcell HTT.out.rb rfl
        have q2 : x3.cell? ⟨w.heap.size, 2, none⟩ = some (.slice none 0 0) := bcell HTT.out.rb rfl
        have q3 : x3.cell? ⟨w.heap.size, 3, none⟩ = some (.slice none 0 0) := bcell HTT.out.rb rfl
        have r0 := bfree HTT.out.rb 0
        have r1 := bfree HTT.out.rb 1
        have r2 := bfree HTT.out.rb 2
        have r3 := bfree HTT.out.rb 3
        have HDN : Hid (∀ y0 y1 y2 y3, Tq w.heap.size (res4 x3 w.heap.size y0 y1 y2 y3) es ms ga cg ha ch ∧ Cur (res4 x3 w.heap.size y0 y1 y2 y3) p a len cap ∧ On p w (res4 x3 w.heap.size y0 y1 y2 y3)) := fun y0 y1 y2 y3 => HTT.out.done y0 y1 y2 y3
        clear HTT
        go_wp2_with (fail)
        clear hx3
        exact bodyPost_ret (v := .agg #[.string sn, .int .i64 v, .slice ga es.length cg, .slice ha ms.length ch]) (by simp [results, Try.results44, go_sem, q0, q1, q2, q3]) rfl ⟨⟨sn, v, es, ms, ga, cg, ha, ch, rfl, HSM2.out, (HDN.out _ _ _ _).1⟩, (HDN.out _ _ _ _).2⟩
      by_cases z1 : z = 1
      · subst z1
        have g2 := dnm.draw_name p a len cap x1 HT1.out.cur
        go_wp2_with (go_at_call 66; fail)
        refine g2.mono ?_
        rintro e x2 ⟨⟨v, hv, rfl⟩, hd2, hf2⟩
        have HT2 : Hid (St p a len cap w sn nx es ms ga cg ha ch x2) := HT1.out.draw hd2 hf2
        have k0 : x2.cell? ⟨w.heap.size + 1, 0, none⟩ = some (.string sn) := bcell HT2.out.sb rfl
        have k0f := bfree HT2.out.sb 0
        have HT3 := HT2.out.name v
        obtain ⟨x3, hx3⟩ : ∃ x3, x2.setCell ⟨w.heap.size + 1, 0, none⟩ (.string v) = x3 := ⟨_, rfl⟩
        rw [hx3] at HT3
        have HSM3 : Hid (Sm 520 v es ms) := ⟨hv, HSM2.out.tt, HSM2.out.eo, HSM2.out.mo⟩
        clear HSM2
        have HSM2 : Hid (Sm 520 v es ms) := HSM3
        have HTT : Hid (St p a len cap w v nx es ms ga cg ha ch x3) := HT3
        clear g2 hd2 hf2 hv HT2 HT3 HT1 HSM3
        have c0 : x3.cell? ⟨w.heap.size + 1, 0, none⟩ = some (.string v) := bcell HTT.out.sb rfl
        have c1 : x3.cell? ⟨w.heap.size + 1, 1, none⟩ = some (.int .i64 nx) := bcell HTT.out.sb rfl
        have c2 : x3.cell? ⟨w.heap.size + 1, 2, none⟩ = some (.slice ga es.length cg) := bcell HTT.out.sb rfl
        have c3 : x3.cell? ⟨w.heap.size + 1, 3, none⟩ = some (.slice ha ms.length ch) := bcell HTT.out.sb rfl
        have q0 : x3.cell? ⟨w.heap.size, 0, none⟩ = some (.string ⟨#[]⟩) := bcell HTT.out.rb rfl
        have q1 : x3.cell? ⟨w.heap.size, 1, none⟩ = some (.int .i64 0) := bcell HTT.out.rb rfl
        have q2 : x3.cell? ⟨w.heap.size, 2, none⟩ = some (.slice none 0 0) := bcell HTT.out.rb rfl
        have q3 : x3.cell? ⟨w.heap.size, 3, none⟩ = some (.slice none 0 0) := bcell HTT.out.rb rfl
        have r0 := bfree HTT.out.rb 0
        have r1 := bfree HTT.out.rb 1
        have r2 := bfree HTT.out.rb 2
        have r3 := bfree HTT.out.rb 3
        have HDN : Hid (∀ y0 y1 y2 y3, Tq w.heap.size (res4 x3 w.heap.size y0 y1 y2 y3) es ms ga cg ha ch ∧ Cur (res4 x3 w.heap.size y0 y1 y2 y3) p a len cap ∧ On p w (res4 x3 w.heap.size y0 y1 y2 y3)) := fun y0 y1 y2 y3 => HTT.out.done y0 y1 y2 y3
        clear HTT
        go_wp2_with (fail)
        clear hx3
        exact bodyPost_ret (v := .agg #[.string v, .int .i64 nx, .slice ga es.length cg, .slice ha ms.length ch]) (by simp [results, Try.results44, go_sem, q0, q1, q2, q3]) rfl ⟨⟨v, nx, es, ms, ga, cg, ha, ch, rfl, HSM2.out, (HDN.out _ _ _ _).1⟩, (HDN.out _ _ _ _).2⟩
      by_cases z2 : z = 2
      · subst z2
        cases es with
        | nil =>
          have HTT : Hid (St p a len cap w sn nx [] ms ga cg ha ch x1) := HT1
          clear HT1
          have c0 : x1.cell? ⟨w.heap.size + 1, 0, none⟩ = some (.string sn) := bcell HTT.out.sb rfl
          have c1 : x1.cell? ⟨w.heap.size + 1, 1, none⟩ = some (.int .i64 nx) := bcell HTT.out.sb rfl
          have c2 : x1.cell? ⟨w.heap.size + 1, 2, none⟩ = some (.slice ga ([] : List flM.Ms).length cg) := bcell HTT.out.sb rfl
          have c3 : x1.cell? ⟨w.heap.size + 1, 3, none⟩ = some (.slice ha ms.length ch) := bcell HTT.out.sb rfl
          have q0 : x1.cell? ⟨w.heap.size, 0, none⟩ = some (.string ⟨#[]⟩) := bcell HTT.out.rb rfl
          have q1 : x1.cell? ⟨w.heap.size, 1, none⟩ = some (.int .i64 0) := bcell HTT.out.rb rfl
          have q2 : x1.cell? ⟨w.heap.size, 2, none⟩ = some (.slice none 0 0) := bcell HTT.out.rb rfl
          have q3 : x1.cell? ⟨w.heap.size, 3, none⟩ = some (.slice none 0 0) := bcell HTT.out.rb rfl
          have r0 := bfree HTT.out.rb 0
          have r1 := bfree HTT.out.rb 1
          have r2 := bfree HTT.out.rb 2
          have r3 := bfree HTT.out.rb 3
          have HDN : Hid (∀ y0 y1 y2 y3, Tq w.heap.size (res4 x1 w.heap.size y0 y1 y2 y3) [] ms ga cg ha ch ∧ Cur (res4 x1 w.heap.size y0 y1 y2 y3) p a len cap ∧ On p w (res4 x1 w.heap.size y0 y1 y2 y3)) := fun y0 y1 y2 y3 => HTT.out.done y0 y1 y2 y3
          clear HTT
          go_wp2
          exact bodyPost_ret (v := .agg #[.string sn, .int .i64 nx, .slice ga ([] : List flM.Ms).length cg, .slice ha ms.length ch]) (by simp [results, Try.results44, go_sem, q0, q1, q2, q3]) rfl ⟨⟨sn, nx, [], ms, ga, cg, ha, ch, rfl, HSM2.out, (HDN.out _ _ _ _).1⟩, (HDN.out _ _ _ _).2⟩
        | cons e0' r0' =>
          obtain ⟨gq, rfl⟩ : ∃ g, ga = some ⟨g, 0, none⟩ := by
            rcases dlq.own_form HT1.out.dr.oe with h | h
            · exact absurd h.1 (by simp)
            · exact h
          have c2 : x1.cell? ⟨w.heap.size + 1, 2, none⟩ = some (.slice (some ⟨gq, 0, none⟩) (r0'.length + 1) cg) := bcell HT1.out.sb rfl
          have hl0 : 0 < r0'.length + 1 := by omega
          go_wp2
          clear c2
          refine cht.region (σ := G) (ws := (fun s : G => [(87, .pointer (some ⟨w.heap.size + 1, 2, none⟩)), (88, .slice (some ⟨gq, 0, none⟩) (r0'.length + 1) cg), (89, .pointer (some ⟨p, 0, none⟩)), (90, .pointer (some ⟨w.heap.size + 1, 1, none⟩)), (91, .int .i64 nx), (92, .slice (some ⟨s.a, 0, none⟩) 3 3), (93, .int .i64 s.n), (94, .pointer (some ⟨gq, 0, none⟩)), (95, .pointer (some ⟨gq, 0, none⟩))])) (js := [5, 6, 9]) (S := (fun g k W => (k ≤ 2 → St p a len cap w sn nx (e0' :: r0') ms (some ⟨gq, 0, none⟩) cg ha ch W) ∧ (k = 1 → p < g.a ∧ ∀ i, i < 3 → ∃ z ∈ ([0, nx, 1] : List Int), W.cell? ⟨g.a, i, none⟩ = some (.int .i64 z)) ∧ (k = 3 → ∃ z, St p a len cap w sn nx ({ e0' with q := z } :: r0') ms (some ⟨gq, 0, none⟩) cg ha ch W))) [87, 88, 89, 90, 91, 92, 93, 94, 95] ⟨0, 0, 0, ⟨#[]⟩, ⟨#[]⟩, ⟨#[]⟩, 0, undef, undef, false⟩ (by kernel_rfl) (by kernel_rfl) (fun _ => rfl) (by kernel_rfl) (by decide) ⟨fun _ => HT1.out.step (Below.refl _ _).drew, fun h => (by omega), fun h => (by omega)⟩ ?each ?fin
          case each =>
            refine ⟨cht.quiet 3 rfl (by decide) (.inl rfl) (by simp) (fun s => .pointer (some ⟨w.heap.size + 1, 2, none⟩)) (by rintro s _ ⟨⟩; exact dk.sets_on _ (by simp) _ rfl) (fun s k' W hk' hS => by simp [execOp, go_sem, Act.eval, dk.sets_get, List.lookup]), ?_⟩
            refine ⟨cht.quiet 2 rfl (by decide) (.inr ⟨9, _, rfl, rfl, ⟨1, .phase⟩, by simp, rfl, rfl⟩) (by simp) (fun s => .slice (some ⟨gq, 0, none⟩) (r0'.length + 1) cg) (by rintro s _ ⟨⟩; exact dk.sets_on _ (by simp) _ rfl) (fun s k' W hk' hS => by have hst := hS.1 hk'; have c2 : W.cell? ⟨w.heap.size + 1, 2, none⟩ = some (.slice (some ⟨gq, 0, none⟩) (r0'.length + 1) cg) := bcell hst.sb rfl; simp [execOp, go_sem, Act.eval, dk.sets_get, List.lookup, c2]), ?_⟩
            refine ⟨cht.quiet 3 rfl (by decide) (.inl rfl) (by simp) (fun s => .pointer (some ⟨p, 0, none⟩)) (by rintro s _ ⟨⟩; exact dk.sets_on _ (by simp) _ rfl) (fun s k' W hk' hS => by simp [execOp, go_sem, Act.eval, dk.sets_get, List.lookup]), ?_⟩
            refine ⟨cht.quiet 3 rfl (by decide) (.inl rfl) (by simp) (fun s => .pointer (some ⟨w.heap.size + 1, 1, none⟩)) (by rintro s _ ⟨⟩; exact dk.sets_on _ (by simp) _ rfl) (fun s k' W hk' hS => by simp [execOp, go_sem, Act.eval, dk.sets_get, List.lookup]), ?_⟩
            refine ⟨cht.quiet 2 rfl (by decide) (.inr ⟨9, _, rfl, rfl, ⟨4, .phase⟩, by simp, rfl, rfl⟩) (by simp) (fun s => .int .i64 nx) (by rintro s _ ⟨⟩; exact dk.sets_on _ (by simp) _ rfl) (fun s k' W hk' hS => by have hst := hS.1 hk'; have c1 : W.cell? ⟨w.heap.size + 1, 1, none⟩ = some (.int .i64 nx) := bcell hst.sb rfl; simp [execOp, go_sem, Act.eval, dk.sets_get, List.lookup, c1]), ?_⟩
            refine ⟨chd.eff 0 [5, 6, 7, 8, 9] [92] (by kernel_rfl) (by kernel_rfl) rfl (by decide) rfl (.inl rfl) (by simp) (fun s W hS => by exact ⟨{ s with a := W.heap.size }, .slice (some ⟨W.heap.size, 0, none⟩) 3 3, W.alloc (.cells #[.int .i64 0, .int .i64 nx, .int .i64 1] 3), (by simp [chd.But]), (by rintro _ ⟨⟩; exact dk.sets_on _ (by simp) _ rfl), (by simp [execOp, go_sem, Act.eval, dk.sets_get, List.lookup]), fun _ => (hS.1 (by omega)).alloc _, fun _ => ⟨(by have h1 := (hS.1 (by omega)).size; have h2 := (hS.1 (by omega)).hp; show p < W.heap.size; omega), at_list W [0, nx, 1] _⟩, fun h => (by omega)⟩), ?_⟩
            refine ⟨chd.call 1 [6, 7, 8, 9] [93] (by kernel_rfl) (by kernel_rfl) rfl (by decide) rfl (.inr ⟨⟨5, .data⟩, by simp, rfl, rfl⟩) (by simp) 52 (fun s => #[.pointer (some ⟨p, 0, none⟩), .slice (some ⟨s.a, 0, none⟩) 3 3]) (fun s W hS => by exact ⟨by simp [go_sem, Act.eval, dk.sets_get, List.lookup], (draw_pick_int p a len cap s.a 3 [0, nx, 1] W (by omega) (by have := (hS.2.1 rfl).1; omega) (hS.2.1 rfl).2 (hS.1 (by omega)).cur).mono fun e w9 hh => by obtain ⟨⟨z9, hz9, rfl⟩, k1, k2⟩ := hh; exact ⟨{ s with n := z9 }, _, rfl, (by simp [chd.But]), (by rintro _ ⟨⟩; exact dk.sets_on _ (by simp) _ rfl), fun _ => (hS.1 (by omega)).draw k1 k2, fun h => (by omega), fun h => (by omega)⟩⟩), ?_⟩
            refine ⟨cht.quiet 3 rfl (by decide) (.inl rfl) (by simp) (fun s => .pointer (some ⟨gq, 0, none⟩)) (by rintro s _ ⟨⟩; exact dk.sets_on _ (by simp) _ rfl) (fun s k' W hk' hS => by simp [execOp, go_sem, Act.eval, dk.sets_get, List.lookup]), ?_⟩
            refine ⟨cht.quiet 3 rfl (by decide) (.inl rfl) (by simp) (fun s => .pointer (some ⟨gq, 0, none⟩)) (by rintro s _ ⟨⟩; exact dk.sets_on _ (by simp) _ rfl) (fun s k' W hk' hS => by simp [execOp, go_sem, Act.eval, dk.sets_get, List.lookup]), ?_⟩
            exact ⟨cht.sto 2 rfl (by decide) rfl (.inr ⟨⟨6, .data⟩, by simp, rfl, rfl⟩) (by simp) rfl (fun s W hS => by have hst := hS.1 (by omega); obtain ⟨z0, z1⟩ := hst.first0; exact ⟨W.setCell ⟨gq, 0, none⟩ (.int .i64 s.n), by simp [execOp, go_sem, Act.eval, dk.sets_get, List.lookup, z0, z1], fun h => (by omega), fun h => (by omega), fun _ => ⟨s.n, hst.first s.n⟩⟩), trivial⟩
          case fin =>
            intro s x3 hS
            obtain ⟨zq, hst3⟩ := hS.2.2 rfl
            have HTT : Hid (St p a len cap w sn nx ({ e0' with q := zq } :: r0') ms (some ⟨gq, 0, none⟩) cg ha ch x3) := hst3
            have HSM3 : Hid (Sm 520 sn ({ e0' with q := zq } :: r0') ms) := ⟨HSM2.out.ns, HSM2.out.tt, fun e he => by
              rcases List.mem_cons.1 he with rfl | he
              · exact HSM2.out.eo e0' (List.mem_cons_self ..)
              · exact HSM2.out.eo e (List.mem_cons_of_mem _ he), HSM2.out.mo⟩
            clear HSM2
            have HSM2 : Hid (Sm 520 sn ({ e0' with q := zq } :: r0') ms) := HSM3
            obtain ⟨sx, sy, sA, sT, sU, sC, sN, sV, sM, sB⟩ := s
            simp only [dk.sets]
            clear hS hst3 HT1 HSM3
            have c0 : x3.cell? ⟨w.heap.size + 1, 0, none⟩ = some (.string sn) := bcell HTT.out.sb rfl
            have c1 : x3.cell? ⟨w.heap.size + 1, 1, none⟩ = some (.int .i64 nx) := bcell HTT.out.sb rfl
            have c2 : x3.cell? ⟨w.heap.size + 1, 2, none⟩ = some (.slice (some ⟨gq, 0, none⟩) (({ e0' with q := zq } :: r0') : List flM.Ms).length cg) := bcell HTT.out.sb rfl
            have c3 : x3.cell? ⟨w.heap.size + 1, 3, none⟩ = some (.slice ha ms.length ch) := bcell HTT.out.sb rfl
            have q0 : x3.cell? ⟨w.heap.size, 0, none⟩ = some (.string ⟨#[]⟩) := bcell HTT.out.rb rfl
            have q1 : x3.cell? ⟨w.heap.size, 1, none⟩ = some (.int .i64 0) := bcell HTT.out.rb rfl
            have q2 : x3.cell? ⟨w.heap.size, 2, none⟩ = some (.slice none 0 0) := bcell HTT.out.rb rfl
            have q3 : x3.cell? ⟨w.heap.size, 3, none⟩ = some (.slice none 0 0) := bcell HTT.out.rb rfl
            have r0 := bfree HTT.out.rb 0
            have r1 := bfree HTT.out.rb 1
            have r2 := bfree HTT.out.rb 2
            have r3 := bfree HTT.out.rb 3
            have HDN : Hid (∀ y0 y1 y2 y3, Tq w.heap.size (res4 x3 w.heap.size y0 y1 y2 y3) ({ e0' with q := zq } :: r0') ms (some ⟨gq, 0, none⟩) cg ha ch ∧ Cur (res4 x3 w.heap.size y0 y1 y2 y3) p a len cap ∧ On p w (res4 x3 w.heap.size y0 y1 y2 y3)) := fun y0 y1 y2 y3 => HTT.out.done y0 y1 y2 y3
            clear HTT
            go_wp2
            exact bodyPost_ret (v := .agg #[.string sn, .int .i64 nx, .slice (some ⟨gq, 0, none⟩) (({ e0' with q := zq } :: r0') : List flM.Ms).length cg, .slice ha ms.length ch]) (by simp [results, Try.results44, go_sem, q0, q1, q2, q3]) rfl ⟨⟨sn, nx, ({ e0' with q := zq } :: r0'), ms, (some ⟨gq, 0, none⟩), cg, ha, ch, rfl, HSM2.out, (HDN.out _ _ _ _).1⟩, (HDN.out _ _ _ _).2⟩
      by_cases z3 : z = 3
      · subst z3
        go_wp2
        go_loopw [104] (fun _ wr => ∃ (E : List flM.Ms) (gg : Option Addr) (gc : Nat), E.length ≤ 501 ∧ Hid (Sm 520 sn E ms) ∧ Hid (St p a len cap w sn nx E ms gg gc ha ch wr)) (fun _ wr => 502 - lenC (w.heap.size + 1) 2 wr)
        case atStart => exact ⟨es, ga, cg, by omega, HSM2, HT1⟩
        case round =>
          obtain ⟨E, gg, gc, hE, HSM3, hst2⟩ := hrel
          clear HT1 HSM2
          have hlz : lenC (w.heap.size + 1) 2 wr = E.length := lenC_eq (bcell (j := 2) (v := .slice gg E.length gc) hst2.out.sb rfl)
          have HLZ : Hid (lenC (w.heap.size + 1) 2 wr = E.length) := hlz
          have hsz2 := hst2.out.size
          clear hlz
          go_wp2
          refine cht.region (σ := G) (ws := (fun s : G => [(98, .pointer (some ⟨w.heap.size + 1, 2, none⟩)), (99, .slice gg E.length gc), (100, .int .i64 E.length), (101, .pointer (some ⟨p, 0, none⟩)), (102, .int .i64 s.x), (103, .int .i64 (500 + s.x)), (104, .bool (decide ((E.length : Int) < 500 + s.x)))])) (js := [4]) (S := (fun g k W => St p a len cap w sn nx E ms gg gc ha ch W ∧ g.x < 2)) [98, 99, 100, 101, 102, 103, 104] ⟨0, 0, 0, ⟨#[]⟩, ⟨#[]⟩, ⟨#[]⟩, 0, undef, undef, false⟩ (by kernel_rfl) (by kernel_rfl) (fun _ => rfl) (by kernel_rfl) (by decide) ⟨hst2.out.step (Below.refl _ _).drew, by decide⟩ ?each ?fin
          case each =>
            refine ⟨cht.quiet 1 rfl (by decide) (.inl rfl) (by simp) (fun s => .pointer (some ⟨w.heap.size + 1, 2, none⟩)) (by rintro s _ ⟨⟩; exact dk.sets_on _ (by simp) _ rfl) (fun s k' W hk' hS => by simp [execOp, go_sem, Act.eval, dk.sets_get, List.lookup]), ?_⟩
            refine ⟨cht.quiet 1 rfl (by decide) (.inl rfl) (by simp) (fun s => .slice gg E.length gc) (by rintro s _ ⟨⟩; exact dk.sets_on _ (by simp) _ rfl) (fun s k' W hk' hS => by have c3 : W.cell? ⟨w.heap.size + 1, 2, none⟩ = some (.slice gg E.length gc) := bcell hS.1.sb rfl; simp [execOp, go_sem, Act.eval, dk.sets_get, List.lookup, c3]), ?_⟩
            refine ⟨cht.quiet 1 rfl (by decide) (.inl rfl) (by simp) (fun s => .int .i64 E.length) (by rintro s _ ⟨⟩; exact dk.sets_on _ (by simp) _ rfl) (fun s k' W hk' hS => by simp [go_sem, Act.eval, dk.sets_get, List.lookup]), ?_⟩
            refine ⟨cht.quiet 1 rfl (by decide) (.inl rfl) (by simp) (fun s => .pointer (some ⟨p, 0, none⟩)) (by rintro s _ ⟨⟩; exact dk.sets_on _ (by simp) _ rfl) (fun s k' W hk' hS => by simp [execOp, go_sem, Act.eval, dk.sets_get, List.lookup]), ?_⟩
            refine ⟨chd.call 0 [4, 5, 6] [102, 103, 104] (by kernel_rfl) (by kernel_rfl) rfl (by decide) rfl (.inl rfl) (by simp) 49 (fun s => #[.pointer (some ⟨p, 0, none⟩), .int .i64 2]) (fun s W hS => by exact ⟨by simp [go_sem, Act.eval, dk.sets_get, List.lookup], (draw_below p a len cap 2 W (by omega) hS.1.cur).mono fun e w9 hh => by obtain ⟨⟨z9, hz9, rfl⟩, k1, k2⟩ := hh; exact ⟨{ s with x := z9 }, _, rfl, (by simp [chd.But]), (by rintro _ ⟨⟩; exact dk.sets_on _ (by simp) _ rfl), hS.1.draw k1 k2, hz9⟩⟩), ?_⟩
            refine ⟨cht.quiet 1 rfl (by decide) (.inl rfl) (by simp) (fun s => .int .i64 (500 + s.x)) (by rintro s _ ⟨⟩; exact dk.sets_on _ (by simp) _ rfl) (fun s k' W hk' hS => by have h9 := hS.2; have hwr : IntKind.i64.wrap (500 + (s.x : Int)) = 500 + s.x := (by rw [IntKind.wrap_i64]; omega); simp [execOp, go_sem, Act.eval, dk.sets_get, List.lookup, hwr]), ?_⟩
            exact ⟨cht.quiet 1 rfl (by decide) (.inl rfl) (by simp) (fun s => .bool (decide ((E.length : Int) < 500 + s.x))) (by rintro s _ ⟨⟩; exact dk.sets_on _ (by simp) _ rfl) (fun s k' W hk' hS => by simp [execOp, go_sem, Act.eval, dk.sets_get, List.lookup]), trivial⟩
          case fin =>
            intro s x3 hS
            obtain ⟨hs3, hsx⟩ := hS
            have d2 : x3.cell? ⟨w.heap.size + 1, 2, none⟩ = some (.slice gg E.length gc) := bcell hs3.sb rfl
            have hs3z := hs3.size
            have HS3 : Hid (St p a len cap w sn nx E ms gg gc ha ch x3) := hs3
            clear hs3
            obtain ⟨sx, sy, sA, sT, sU, sC, sN, sV, sM, sB⟩ := s
            simp only at hsx
            simp only [dk.sets, Act.put, List.setIfInBounds_toArray, List.set_cons_succ, List.set_cons_zero]
            cases hcb : decide ((E.length : Int) < 500 + (sx : Int)) with
            | true =>
              have hlt0 := of_decide_eq_true hcb
              have hle4 : E.length ≤ 500 := by omega
              clear hcb hlt0
              have hw9 : IntKind.i64.wrap (1000 + (E.length : Int)) = 1000 + (E.length : Int) := by rw [IntKind.wrap_i64]; omega
              obtain ⟨ga', cg', Y, hr, ⟨k2, k2f⟩, hst5⟩ := (HS3.out.alloc (.cells #[.int .i64 (1000 + (E.length : Int)), .string ⟨#[]⟩, .string ⟨#[107]⟩, .string ⟨#[]⟩, .bool false] 41)).appQ ⟨1000 + (E.length : Int), ⟨#[]⟩, ⟨#[107]⟩, ⟨#[]⟩, false⟩ (bnew x3 _ _) (by omega) 24
              have HSM6 : Hid (Sm 520 sn (E ++ [(⟨1000 + (E.length : Int), ⟨#[]⟩, ⟨#[107]⟩, ⟨#[]⟩, false⟩ : flM.Ms)]) ms) := ⟨HSM3.out.ns, by rw [List.length_append, List.length_singleton]; omega, fun e he => by
                rcases List.mem_append.1 he with he | he
                · exact HSM3.out.eo e he
                · rw [List.mem_singleton.1 he]; exact ⟨Nat.zero_le _, (by decide : (⟨#[107]⟩ : ByteArray).size ≤ 100), Nat.zero_le _⟩, HSM3.out.mo⟩
              have HLE : Hid ((E ++ [(⟨1000 + (E.length : Int), ⟨#[]⟩, ⟨#[107]⟩, ⟨#[]⟩, false⟩ : flM.Ms)]).length = E.length + 1) := by unfold Hid; simp
              have hlz2 : lenC (w.heap.size + 1) 2 (Y.setCell ⟨w.heap.size + 1, 2, none⟩ (.slice ga' (E.length + 1) cg')) = E.length + 1 := by
                have h9 := hst5.sb
                rw [HLE.out] at h9
                exact lenC_eq (bcell (j := 2) h9 rfl)
              have HLZ2 : Hid (lenC (w.heap.size + 1) 2 (Y.setCell ⟨w.heap.size + 1, 2, none⟩ (.slice ga' (E.length + 1) cg')) = E.length + 1) := hlz2
              have HST6 : Hid (St p a len cap w sn nx (E ++ [(⟨1000 + (E.length : Int), ⟨#[]⟩, ⟨#[107]⟩, ⟨#[]⟩, false⟩ : flM.Ms)]) ms ga' cg' ha ch (Y.setCell ⟨w.heap.size + 1, 2, none⟩ (.slice ga' (E.length + 1) cg'))) := hst5
              clear hlz2 hst5
              go_wp2_with (at_builtin; refine cpr.wpList_append_run rfl _ _ _ _ rfl _ _ _ rfl rfl hr ?_)
              clear hr d2
              go_wp2
              go_roundw
              case rel => exact ⟨_, ga', cg', by rw [HLE.out]; omega, HSM6, HST6⟩
              case measure => rw [HLZ.out, HLZ2.out]; omega
            | false =>
              clear hcb
              have HSM2 : Hid (Sm 520 sn E ms) := HSM3
              have k1 : x3.cell? ⟨w.heap.size + 1, 1, none⟩ = some (.int .i64 nx) := bcell HS3.out.sb rfl
              have k1f := bfree HS3.out.sb 1
              have HT3 := HS3.out.next 5000
              obtain ⟨x4, hx4⟩ : ∃ x4, x3.setCell ⟨w.heap.size + 1, 1, none⟩ (.int .i64 5000) = x4 := ⟨_, rfl⟩
              rw [hx4] at HT3
              have HTT : Hid (St p a len cap w sn 5000 E ms gg gc ha ch x4) := HT3
              clear HS3 HT3 d2
              have c0 : x4.cell? ⟨w.heap.size + 1, 0, none⟩ = some (.string sn) := bcell HTT.out.sb rfl
              have c1 : x4.cell? ⟨w.heap.size + 1, 1, none⟩ = some (.int .i64 5000) := bcell HTT.out.sb rfl
              have c2 : x4.cell? ⟨w.heap.size + 1, 2, none⟩ = some (.slice gg E.length gc) := bcell HTT.out.sb rfl
              have c3 : x4.cell? ⟨w.heap.size + 1, 3, none⟩ = some (.slice ha ms.length ch) := bcell HTT.out.sb rfl
              have q0 : x4.cell? ⟨w.heap.size, 0, none⟩ = some (.string ⟨#[]⟩) := bcell HTT.out.rb rfl
              have q1 : x4.cell? ⟨w.heap.size, 1, none⟩ = some (.int .i64 0) := bcell HTT.out.rb rfl
              have q2 : x4.cell? ⟨w.heap.size, 2, none⟩ = some (.slice none 0 0) := bcell HTT.out.rb rfl
              have q3 : x4.cell? ⟨w.heap.size, 3, none⟩ = some (.slice none 0 0) := bcell HTT.out.rb rfl
              have r0 := bfree HTT.out.rb 0
              have r1 := bfree HTT.out.rb 1
              have r2 := bfree HTT.out.rb 2
              have r3 := bfree HTT.out.rb 3
              have HDN : Hid (∀ y0 y1 y2 y3, Tq w.heap.size (res4 x4 w.heap.size y0 y1 y2 y3) E ms gg gc ha ch ∧ Cur (res4 x4 w.heap.size y0 y1 y2 y3) p a len cap ∧ On p w (res4 x4 w.heap.size y0 y1 y2 y3)) := fun y0 y1 y2 y3 => HTT.out.done y0 y1 y2 y3
              clear HTT
              go_wp2_with (fail)
              clear hx4
              exact bodyPost_ret (v := .agg #[.string sn, .int .i64 5000, .slice gg E.length gc, .slice ha ms.length ch]) (by simp [results, Try.results44, go_sem, q0, q1, q2, q3]) rfl ⟨⟨sn, 5000, E, ms, gg, gc, ha, ch, rfl, HSM2.out, (HDN.out _ _ _ _).1⟩, (HDN.out _ _ _ _).2⟩
      have f0 : ((z : Int) == 0) = false := by simp; omega
      have f1 : ((z : Int) == 1) = false := by simp; omega
      have f2 : ((z : Int) == 2) = false := by simp; omega
      have f3 : ((z : Int) == 3) = false := by simp; omega
      have HTT : Hid (St p a len cap w sn nx es ms ga cg ha ch x1) := HT1
      clear HT1
      have c0 : x1.cell? ⟨w.heap.size + 1, 0, none⟩ = some (.string sn) := bcell HTT.out.sb rfl
      have c1 : x1.cell? ⟨w.heap.size + 1, 1, none⟩ = some (.int .i64 nx) := bcell HTT.out.sb rfl
      have c2 : x1.cell? ⟨w.heap.size + 1, 2, none⟩ = some (.slice ga es.length cg) := bcell HTT.out.sb rfl
      have c3 : x1.cell? ⟨w.heap.size + 1, 3, none⟩ = some (.slice ha ms.length ch) := bcell HTT.out.sb rfl
      have q0 : x1.cell? ⟨w.heap.size, 0, none⟩ = some (.string ⟨#[]⟩) := bcell HTT.out.rb rfl
      have q1 : x1.cell? ⟨w.heap.size, 1, none⟩ = some (.int .i64 0) := bcell HTT.out.rb rfl
      have q2 : x1.cell? ⟨w.heap.size, 2, none⟩ = some (.slice none 0 0) := bcell HTT.out.rb rfl
      have q3 : x1.cell? ⟨w.heap.size, 3, none⟩ = some (.slice none 0 0) := bcell HTT.out.rb rfl
      have r0 := bfree HTT.out.rb 0
      have r1 := bfree HTT.out.rb 1
      have r2 := bfree HTT.out.rb 2
      have r3 := bfree HTT.out.rb 3
      have HDN : Hid (∀ y0 y1 y2 y3, Tq w.heap.size (res4 x1 w.heap.size y0 y1 y2 y3) es ms ga cg ha ch ∧ Cur (res4 x1 w.heap.size y0 y1 y2 y3) p a len cap ∧ On p w (res4 x1 w.heap.size y0 y1 y2 y3)) := fun y0 y1 y2 y3 => HTT.out.done y0 y1 y2 y3
      clear HTT
      go_wp2
      exact bodyPost_ret (v := .agg #[.string sn, .int .i64 nx, .slice ga es.length cg, .slice ha ms.length ch]) (by simp [results, Try.results44, go_sem, q0, q1, q2, q3]) rfl ⟨⟨sn, nx, es, ms, ga, cg, ha, ch, rfl, HSM2.out, (HDN.out _ _ _ _).1⟩, (HDN.out _ _ _ _).2⟩
end Go.Proofs.Ytnlcmheahihlpaa.dtq

/- The specification's draw of a key. -/
namespace Go.Proofs.Ytnlcmheahihlpaa.dp
set_option linter.unusedVariables false
open Go.ChangeShapes Go.WideShapes Go.ChangeAt Go.RowKit Go.Proofs.Ytnlcmheahihlpaa.dw

def abc : List ByteArray := [⟨#[97]⟩, ⟨#[98]⟩, ⟨#[99]⟩]
theorem abc_in : ∀ z ∈ abc, z.size ≤ 1 := by decide
def five : List ByteArray := [⟨#[97]⟩, ⟨#[98]⟩, ⟨#[42]⟩, ⟨#[35]⟩, ⟨#[]⟩]
theorem five_in : ∀ z ∈ five, z.size ≤ 1 := by decide
def six : List ByteArray := [⟨#[97]⟩, ⟨#[98]⟩, ⟨#[42]⟩, ⟨#[35]⟩, ⟨#[]⟩, ⟨#[99]⟩]
theorem six_in : ∀ z ∈ six, z.size ≤ 1 := by decide

set_option maxRecDepth 100000 in
set_option maxHeartbeats 1000000 in
theorem draw_key (p : Nat) (a : Option Addr) (len cap : Nat) (w : World) (hc : Cur w p a len cap) :
    Calls Try.prog 46 #[.pointer (some ⟨p, 0, none⟩)] w fun e w' => (∃ s : ByteArray, s.size ≤ 100 ∧ e = .returned (.string s)) ∧ Cur w' p a len cap ∧ On p w w' := by
  have hp := hc.lt
  have h1 := draw_pick p a len cap w.heap.size 5 five _ (by omega) (by omega) (at_texts w five 9) (hc.alloc _)
  clear hc
  go_enter Try.func46, Try.ntmps46
  have t1 : True := trivial
  go_wp2_with (first | (go_at_call 45; refine h1.mono ?_; rintro e w1 ⟨⟨z, hz, rfl⟩, hc1, hb1⟩) | (go_at_call 49; have _t := t1; refine (draw_below p a len cap 4 w1 (by omega) hc1).mono ?_; rintro e w2 ⟨⟨n, hn, rfl⟩, hc2, hb2⟩; clear t1))
  have hz1 := five_in z hz
  have hon : On p w w2 := (((On.refl p w).alloc _).trans hb1).trans hb2
  have HC2 : Hid (Cur w2 p a len cap) := hc2
  clear h1 hc1 hb1 hc2 hb2 hz
  go_loopw [3, 5] (fun y x wr => ∃ (j : Nat) (s : ByteArray), j ≤ n ∧ x = .int .i64 j ∧ y = .string s ∧ s.size ≤ 1 + 2 * j ∧ Hid (Cur wr p a len cap) ∧ On p w wr) (fun _ x _ => n - (intOf x).toNat)
  case atStart => exact ⟨0, z, Nat.zero_le _, rfl, rfl, by omega, HC2, hon⟩
  case round =>
    obtain ⟨j, s, hj, rfl, rfl, hs, hcur, honr⟩ := hrel
    have hpr := hcur.out.lt
    by_cases hjn : j < n
    · have g1 := draw_pick p a len cap wr.heap.size 6 six _ (by omega) (by omega) (at_texts wr six 9) (hcur.out.alloc _)
      have hs9 : s.size ≤ 1000 := by omega
      have HS : Hid (s.size ≤ 1 + 2 * j) := hs
      clear hs
      go_wp2_with (go_at_call 45; refine g1.mono ?_; rintro e x1 ⟨⟨y, hy, rfl⟩, hd1, hf1⟩; have hy1 := six_in y hy; clear hy)
      have HD1 : Hid (Cur x1 p a len cap) := hd1
      have hf2 := (honr.alloc (.cells (six.map Value.string).toArray 9)).trans hf1
      clear g1 hd1 hf1 hcur
      go_roundw
      case rel => exact ⟨j + 1, _, by omega, by go_num, rfl, by rw [ByteArray.size_append, ByteArray.size_append]; have := HS.out; have : (⟨#[46]⟩ : ByteArray).size = 1 := rfl; omega, HD1, hf2⟩
      case measure => simp [intOf]; omega
    · obtain rfl : j = n := by omega
      have g2 := draw_below p a len cap 30 wr (by omega) hcur.out
      have hs7 : s.size ≤ 7 := by omega
      clear hs hcur
      go_wp2_with (go_at_call 49; fail)
      refine g2.mono ?_
      rintro e x1 ⟨⟨c, hcc, rfl⟩, hd1, hf1⟩
      have hon1 := honr.trans hf1
      have HD1 : Hid (Cur x1 p a len cap) := hd1
      clear g2 hd1 hf1
      by_cases hc0 : c = 0
      · subst hc0
        go_wp2
        go_ret
        exact ⟨⟨_, by rw [ByteArray.size_append]; have : (⟨#[32]⟩ : ByteArray).size = 1 := rfl; omega, rfl⟩, HD1.out, hon1⟩
      · by_cases hc1 : c = 1
        · subst hc1
          go_wp2
          go_loopw [3] (fun y wq => ∃ (s : ByteArray), y = .string s ∧ s.size ≤ 61 ∧ Hid (Cur wq p a len cap) ∧ On p w wq) (fun y _ => 70 - (match y with | .string s => s.size | _ => 0))
          case atStart => exact ⟨s, rfl, by omega, HD1, hon1⟩
          case round =>
            obtain ⟨s2, rfl, hs2, hcur2, honr2⟩ := hrel
            have g3 := draw_below p a len cap 2 wr (by omega) hcur2.out
            clear hcur2
            go_wp2_with (go_at_call 49; fail)
            refine g3.mono ?_
            rintro e x2 ⟨⟨d, hd, rfl⟩, hd2, hf2⟩
            have HD2 : Hid (Cur x2 p a len cap) := hd2
            have hon2 := honr2.trans hf2
            clear g3 hd2 hf2
            by_cases hlt : s2.size < 60 + d
            · have hlt2 : (s2.size : Int) < 60 + (d : Int) := by omega
              go_wp2
              go_roundw
              case rel => exact ⟨s2 ++ ⟨#[120]⟩, rfl, by rw [ByteArray.size_append]; show s2.size + 1 ≤ 61; omega, HD2, hon2⟩
              case measure => show 70 - (s2 ++ (⟨#[120]⟩ : ByteArray)).size < 70 - s2.size; rw [ByteArray.size_append]; show 70 - (s2.size + 1) < _; omega
            · have hlt2 : ¬ (s2.size : Int) < 60 + (d : Int) := by omega
              go_wp2
              go_ret
              exact ⟨⟨s2, by omega, rfl⟩, HD2.out, hon2⟩
        · have e0 : ((c : Int) == 0) = false := by simp only [beq_eq_false_iff_ne]; omega
          have e1 : ((c : Int) == 1) = false := by simp only [beq_eq_false_iff_ne]; omega
          go_wp2
          go_ret
          exact ⟨⟨s, by omega, rfl⟩, HD1.out, hon1⟩

end Go.Proofs.Ytnlcmheahihlpaa.dp
