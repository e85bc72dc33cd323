/- The specification's draws of FnStream: a stream and what is asked of it. -/
import Derived.Test.YtlfhfcgcfggjcaaDrawStream
namespace Go.Proofs.Ytlfhfcgcfggjcaa.dss
open Go.ChangeShapes Go.WideShapes Go.ChangeAt Go.RowKit Go.Proofs.Ytlfhfcgcfggjcaa.fl Go.Proofs.Ytlfhfcgcfggjcaa.dw Go.Proofs.Ytlfhfcgcfggjcaa.rr Go.Proofs.Ytlfhfcgcfggjcaa.st Go.Proofs.Ytlfhfcgcfggjcaa.scp Go.Proofs.Ytlfhfcgcfggjcaa.spw Go.Proofs.Ytlfhfcgcfggjcaa.dsl Go.Proofs.Ytlfhfcgcfggjcaa.dst
set_option linter.unusedVariables false

def ints4 : List Int := [0, -1, 1000000000, 1000000001]
/-- what stands on the way of a draw behind the stream's -/
structure Dz (a : Option Addr) (len cap : Nat) (w : World) (es : List flY.En) (ms : List Ex) (ga : Option Addr) (cg : Nat) (ha : Option Addr) (ch : Nat) (W : World) : Prop where
  rb : W.heap[w.heap.size]? = some (.cells #[.string ⟨#[]⟩, .int .i64 0, .int .i64 0, .slice none 0 0, .slice none 0 0] 27 (0, 0))
  cur : Cur W (w.heap.size + 1) a len cap
  bel : Below w.heap.size w W
  dr : Dr (w.heap.size + 2) W es ms ga cg ha ch
section
variable {a : Option Addr} {len cap : Nat} {w W W' : World} {lo nx : Int} {es : List flY.En} {ms : List Ex} {ga : Option Addr} {cg : Nat} {ha : Option Addr} {ch : Nat}
theorem Dz.draw (h : Dz a len cap w es ms ga cg ha ch W) (hc : Cur W' (w.heap.size + 1) a len cap) (hb : On (w.heap.size + 1) W W') : Dz a len cap w es ms ga cg ha ch W' :=
  ⟨st_block h.rb hb (by omega), hc, h.bel.trans (hb.below (by omega) (by have := (Array.getElem?_eq_some_iff.1 h.rb).1; omega)), h.dr.on hb (by omega)⟩
theorem Dz.step (h : Dz a len cap w es ms ga cg ha ch W) (hb : Below W.heap.size W W') : Dz a len cap w es ms ga cg ha ch W' :=
  ⟨bstay h.rb hb (Array.getElem?_eq_some_iff.1 h.rb).1, h.cur.below hb, h.bel.trans (hb.mono h.bel.size), h.dr.below hb⟩
theorem Dz.done (h : Dz a len cap w es ms ga cg ha ch W) (x0 x1 x2 x3 x4 : Value) : Dr w.heap.size (res5 W w.heap.size x0 x1 x2 x3 x4) es ms ga cg ha ch ∧ Below w.heap.size w (res5 W w.heap.size x0 x1 x2 x3 x4) :=
  ⟨Dr.low ⟨own_res5 h.dr.oe h.rb (by decide) .., own_res5 h.dr.om h.rb (by decide) ..⟩ (by omega), (((((h.bel.setCell (Nat.le_refl _) _).setCell (Nat.le_refl _) _).setCell (Nat.le_refl _) _).setCell (Nat.le_refl _) _).setCell (Nat.le_refl _) _)⟩
theorem code_at (hc : dw.Code w w.heap.size a len) : dw.Code (w.alloc (.cells #[.string ⟨#[]⟩, .int .i64 0, .int .i64 0, .slice none 0 0, .slice none 0 0] 27)) (w.alloc (.cells #[.string ⟨#[]⟩, .int .i64 0, .int .i64 0, .slice none 0 0, .slice none 0 0] 27)).heap.size a len := (hc.below ((Below.refl _ _).alloc (Nat.le_refl _) _) (Nat.le_refl _)).mono (by simp)
end
set_option maxRecDepth 100000 in
set_option maxHeartbeats 2000000 in
theorem draw_Trim (a : Option Addr) (len cap : Nat) (w : World) (hlen : len ≤ 1048576) (hc : dw.Code w w.heap.size a len) :
    Calls Try.prog 5 #[.slice a len cap] w fun e w' => (∃ (lo nx : Int) (es : List flY.En) (ms : List Ex) (ga : Option Addr) (cg : Nat) (ha : Option Addr) (ch : Nat) (c o : Int), e = .returned (.tuple #[.agg #[.string ⟨#[115]⟩, .int .i64 lo, .int .i64 nx, .slice ga es.length cg, .slice ha ms.length ch], .int .i64 c, .int .i64 o]) ∧ Sm 500 nx es ms ∧ Dr w.heap.size w' es ms ga cg ha ch ∧ -1 ≤ c ∧ c ≤ 7 ∧ 0 ≤ o) ∧ Below w.heap.size w w' ∧ w.heap.size < w'.heap.size := by
  have h1 := draw_new a len cap _ hlen (code_at hc)
  have HR0 : Hid ((w.alloc (.cells #[.string ⟨#[]⟩, .int .i64 0, .int .i64 0, .slice none 0 0, .slice none 0 0] 27)).heap[w.heap.size]? = some (.cells #[.string ⟨#[]⟩, .int .i64 0, .int .i64 0, .slice none 0 0, .slice none 0 0] 27 (0, 0))) := bnew w _ _
  have HB0 : Hid (Below w.heap.size w (w.alloc (.cells #[.string ⟨#[]⟩, .int .i64 0, .int .i64 0, .slice none 0 0, .slice none 0 0] 27))) := (Below.refl _ _).alloc (Nat.le_refl _) _
  clear hc
  go_enter Try.func5, Try.ntmps5
  go_wp2_with (go_at_call 18; fail)
  refine h1.mono ?_
  rintro e w1 ⟨rfl, hc1, hb1⟩
  rw [World.size_alloc] at hc1 hb1
  have hR1 := bstay HR0.out hb1 (by omega)
  have hB1 := HB0.out.trans (hb1.mono (by omega))
  have h2 := draw_stream (w.heap.size + 1) a len cap w1 hc1
  have hlt1 := hc1.lt
  have HR1 : Hid (w1.heap[w.heap.size]? = some (.cells #[.string ⟨#[]⟩, .int .i64 0, .int .i64 0, .slice none 0 0, .slice none 0 0] 27 (0, 0))) := hR1
  have HB1 : Hid (Below w.heap.size w w1) := hB1
  clear h1 hc1 hb1 hR1 hB1 HR0 HB0
  go_wp2_with (go_at_call 19; fail)
  refine h2.mono ?_
  rintro e w2 ⟨⟨lo, nx, es, ms, ga, cg, ha, ch, rfl, hsm, hdr⟩, hc2, hb2⟩
  have HD2 : Hid (Dz a len cap w es ms ga cg ha ch w2) := ⟨st_block HR1.out hb2 (by omega), hc2, HB1.out.trans (hb2.below (by omega) (by omega)), hdr.low (by omega)⟩
  have HSM : Hid (Sm 500 nx es ms) := hsm
  have hsz2 := hb2.size
  clear h2 hsm hdr hc2 hb2 HR1 HB1
  have HN2 : Hid ((w2.alloc (.cells #[.string ⟨#[115]⟩, .int .i64 lo, .int .i64 nx, .slice ga es.length cg, .slice ha ms.length ch] 27)).heap[w2.heap.size]? = some (.cells #[.string ⟨#[115]⟩, .int .i64 lo, .int .i64 nx, .slice ga es.length cg, .slice ha ms.length ch] 27 (0, 0))) := bnew w2 _ _
  have HD3 : Hid (Dz a len cap w es ms ga cg ha ch (w2.alloc (.cells #[.string ⟨#[115]⟩, .int .i64 lo, .int .i64 nx, .slice ga es.length cg, .slice ha ms.length ch] 27))) := HD2.out.step ((Below.refl _ _).alloc (Nat.le_refl _) _)
  have hne2 : w2.heap.size ≠ w.heap.size + 1 := by omega
  go_wp2
  refine cht.region (σ := G) (ws := (fun s : G => [(11, .agg #[.string ⟨#[115]⟩, .int .i64 lo, .int .i64 nx, .slice ga es.length cg, .slice ha ms.length ch]), (12, .pointer (some ⟨w.heap.size + 1, 0, none⟩)), (13, .int .i64 s.x), (14, .int .i64 ((s.x : Int) - 1)), (15, .pointer (some ⟨w.heap.size + 1, 0, none⟩)), (16, .int .i64 s.y), (3, .int .i64 ((s.x : Int) - 1)), (4, .int .i64 s.y)])) (js := [2, 5, 6]) (S := (fun g k W => (k ≤ 2 → Dz a len cap w es ms ga cg ha ch W ∧ W.heap[w2.heap.size]? = some (.cells #[.string ⟨#[115]⟩, .int .i64 lo, .int .i64 nx, .slice ga es.length cg, .slice ha ms.length ch] 27 (0, 0))) ∧ (g.x < 9) ∧ (k = 3 → Dr w.heap.size W es ms ga cg ha ch ∧ Below w.heap.size w W ∧ W.heap[w.heap.size]? = some (.cells #[.string ⟨#[115]⟩, .int .i64 lo, .int .i64 nx, .slice ga es.length cg, .slice ha ms.length ch] 27 (0, 0))))) [11, 12, 13, 14, 15, 16, 3, 4] ⟨0, 0, 0, ⟨#[]⟩, 0, undef, false⟩ (by kernel_rfl) (by kernel_rfl) (fun _ => rfl) (by kernel_rfl) (by decide) ⟨fun _ => ⟨HD3.out.step (Below.refl _ _).drew, bstay HN2.out (Below.refl _ _).drew (by have := (Array.getElem?_eq_some_iff.1 HN2.out).1; omega)⟩, (by decide), fun h => (by omega)⟩ ?each ?fin
  case each =>
    refine ⟨cht.quiet 2 rfl (by decide) (.inr ⟨6, _, rfl, rfl, ⟨0, .data⟩, by simp, rfl, rfl⟩) (by simp) (fun s => .agg #[.string ⟨#[115]⟩, .int .i64 lo, .int .i64 nx, .slice ga es.length cg, .slice ha ms.length ch]) (by rintro s _ ⟨⟩; exact dk.sets_on _ (by simp) _ rfl) (fun s k' W hk' hS => by obtain ⟨hZ, hN⟩ := hS.1 hk'; have c0 : W.cell? ⟨w2.heap.size, 0, none⟩ = some (.string ⟨#[115]⟩) := bcell hN rfl; have c1 : W.cell? ⟨w2.heap.size, 1, none⟩ = some (.int .i64 lo) := bcell hN rfl; have c2 : W.cell? ⟨w2.heap.size, 2, none⟩ = some (.int .i64 nx) := bcell hN rfl; have c3 : W.cell? ⟨w2.heap.size, 3, none⟩ = some (.slice ga es.length cg) := bcell hN rfl; have c4 : W.cell? ⟨w2.heap.size, 4, none⟩ = some (.slice ha ms.length ch) := bcell hN rfl; simp [execOp, go_sem, Act.eval, dk.sets_get, List.lookup, c0, c1, c2, c3, c4]), ?_⟩
    refine ⟨cht.quiet 3 rfl (by decide) (.inl rfl) (by simp) (fun s => .pointer (some ⟨w.heap.size + 1, 0, none⟩)) (by rintro s _ ⟨⟩; exact dk.sets_on _ (by simp) _ rfl) (fun s k' W hk' hS => by simp [execOp, go_sem, Act.eval, dk.sets_get, List.lookup]), ?_⟩
    refine ⟨chd.call 0 [2, 3, 5, 6, 7, 8] [13, 14, 3] (by kernel_rfl) (by kernel_rfl) rfl (by decide) rfl (.inl rfl) (by simp) 20 (fun s => #[.pointer (some ⟨w.heap.size + 1, 0, none⟩), .int .i64 9]) (fun s W hS => by exact ⟨by simp [go_sem, Act.eval, dk.sets_get, List.lookup], (draw_below (w.heap.size + 1) a len cap 9 W (by omega) (hS.1 (by omega)).1.cur).mono fun e w9 hh => by obtain ⟨⟨z9, hz9, rfl⟩, k1, k2⟩ := hh; exact ⟨{ s with x := z9 }, _, rfl, (by simp [chd.But]), (by rintro _ ⟨⟩; exact dk.sets_on _ (by simp) _ rfl), fun h => ⟨(hS.1 (by omega)).1.draw k1 k2, st_block (hS.1 (by omega)).2 k2 (by omega)⟩, hz9, fun h => (by omega)⟩⟩), ?_⟩
    refine ⟨cht.quiet 3 rfl (by decide) (.inl rfl) (by simp) (fun s => .int .i64 ((s.x : Int) - 1)) (by rintro s _ ⟨⟩; exact dk.sets_on _ (by simp) _ rfl) (fun s k' W hk' hS => by have h9 := hS.2.1; have hwr : IntKind.i64.wrap ((s.x : Int) - 1) = (s.x : Int) - 1 := (by rw [IntKind.wrap_i64]; omega); simp [execOp, go_sem, Act.eval, dk.sets_get, List.lookup, hwr]), ?_⟩
    refine ⟨cht.quiet 3 rfl (by decide) (.inl rfl) (by simp) (fun s => .pointer (some ⟨w.heap.size + 1, 0, none⟩)) (by rintro s _ ⟨⟩; exact dk.sets_on _ (by simp) _ rfl) (fun s k' W hk' hS => by simp [execOp, go_sem, Act.eval, dk.sets_get, List.lookup]), ?_⟩
    refine ⟨chd.call 1 [5, 6, 7, 8] [16, 4] (by kernel_rfl) (by kernel_rfl) rfl (by decide) rfl (.inr ⟨⟨2, .chain⟩, by simp, rfl, rfl⟩) (by simp) 20 (fun s => #[.pointer (some ⟨w.heap.size + 1, 0, none⟩), .int .i64 90]) (fun s W hS => by exact ⟨by simp [go_sem, Act.eval, dk.sets_get, List.lookup], (draw_below (w.heap.size + 1) a len cap 90 W (by omega) (hS.1 (by omega)).1.cur).mono fun e w9 hh => by obtain ⟨⟨z9, hz9, rfl⟩, k1, k2⟩ := hh; exact ⟨{ s with y := z9 }, _, rfl, (by simp [chd.But]), (by rintro _ ⟨⟩; exact dk.sets_on _ (by simp) _ rfl), fun h => ⟨(hS.1 (by omega)).1.draw k1 k2, st_block (hS.1 (by omega)).2 k2 (by omega)⟩, hS.2.1, fun h => (by omega)⟩⟩), ?_⟩
    refine ⟨cht.sto 2 rfl (by decide) rfl (.inr ⟨⟨5, .chain⟩, by simp, rfl, rfl⟩) (by simp) rfl (fun s W hS => by obtain ⟨hZ, hN⟩ := hS.1 (by omega); have q0 : W.cell? ⟨w.heap.size, 0, none⟩ = some (.string ⟨#[]⟩) := bcell hZ.rb rfl; have q1 : W.cell? ⟨w.heap.size, 1, none⟩ = some (.int .i64 0) := bcell hZ.rb rfl; have q2 : W.cell? ⟨w.heap.size, 2, none⟩ = some (.int .i64 0) := bcell hZ.rb rfl; have q3 : W.cell? ⟨w.heap.size, 3, none⟩ = some (.slice none 0 0) := bcell hZ.rb rfl; have q4 : W.cell? ⟨w.heap.size, 4, none⟩ = some (.slice none 0 0) := bcell hZ.rb rfl; have r0 := bfree hZ.rb 0; have r1 := bfree hZ.rb 1; have r2 := bfree hZ.rb 2; have r3 := bfree hZ.rb 3; have r4 := bfree hZ.rb 4; exact ⟨res5 W w.heap.size (.string ⟨#[115]⟩) (.int .i64 lo) (.int .i64 nx) (.slice ga es.length cg) (.slice ha ms.length ch), by simp [execOp, go_sem, Act.eval, dk.sets_get, List.lookup, q0, q1, q2, q3, q4, r0, r1, r2, r3, r4, res5], fun h => (by omega), hS.2.1, fun _ => ⟨(hZ.done _ _ _ _ _).1, (hZ.done _ _ _ _ _).2, res5_at hZ.rb ..⟩⟩), ?_⟩
    refine ⟨cht.quiet 3 rfl (by decide) (.inl rfl) (by simp) (fun s => .int .i64 ((s.x : Int) - 1)) (by rintro s _ ⟨⟩; exact dk.sets_on _ (by simp) _ rfl) (fun s k' W hk' hS => by simp [execOp, go_sem, Act.eval, dk.sets_get, List.lookup]), ?_⟩
    exact ⟨cht.quiet 3 rfl (by decide) (.inl rfl) (by simp) (fun s => .int .i64 s.y) (by rintro s _ ⟨⟩; exact dk.sets_on _ (by simp) _ rfl) (fun s k' W hk' hS => by simp [execOp, go_sem, Act.eval, dk.sets_get, List.lookup]), trivial⟩
  case fin =>
    intro s x5 hS
    have hsx : s.x < 9 := hS.2.1
    obtain ⟨hd5, hb5, hr5⟩ := hS.2.2 rfl
    have q0 : x5.cell? ⟨w.heap.size, 0, none⟩ = some (.string ⟨#[115]⟩) := bcell hr5 rfl
    have q1 : x5.cell? ⟨w.heap.size, 1, none⟩ = some (.int .i64 lo) := bcell hr5 rfl
    have q2 : x5.cell? ⟨w.heap.size, 2, none⟩ = some (.int .i64 nx) := bcell hr5 rfl
    have q3 : x5.cell? ⟨w.heap.size, 3, none⟩ = some (.slice ga es.length cg) := bcell hr5 rfl
    have q4 : x5.cell? ⟨w.heap.size, 4, none⟩ = some (.slice ha ms.length ch) := bcell hr5 rfl
    have HD5 : Hid (Dr w.heap.size x5 es ms ga cg ha ch ∧ Below w.heap.size w x5 ∧ w.heap.size < x5.heap.size) := ⟨hd5, hb5, (Array.getElem?_eq_some_iff.1 hr5).1⟩
    obtain ⟨sx, sy, sA, sT, sU, sV, sB⟩ := s
    simp only [dk.sets]
    clear hS hd5 hb5 hr5
    go_wp2
    exact bodyPost_ret (v := .tuple #[.agg #[.string ⟨#[115]⟩, .int .i64 lo, .int .i64 nx, .slice ga es.length cg, .slice ha ms.length ch], .int .i64 ((sx : Int) - 1), .int .i64 sy]) (by simp [results, Try.results5, go_sem, q0, q1, q2, q3, q4]) rfl ⟨⟨lo, nx, es, ms, ga, cg, ha, ch, (sx : Int) - 1, sy, rfl, HSM.out, HD5.out.1, by omega, by omega, by omega⟩, HD5.out.2⟩
set_option maxRecDepth 100000 in
set_option maxHeartbeats 2000000 in
theorem draw_Put (a : Option Addr) (len cap : Nat) (w : World) (hlen : len ≤ 1048576) (hc : dw.Code w w.heap.size a len) :
    Calls Try.prog 8 #[.slice a len cap] w fun e w' => (∃ (lo nx : Int) (es : List flY.En) (ms : List Ex) (ga : Option Addr) (cg : Nat) (ha : Option Addr) (ch : Nat) (t : Int) (b : ByteArray), e = .returned (.tuple #[.agg #[.string ⟨#[115]⟩, .int .i64 lo, .int .i64 nx, .slice ga es.length cg, .slice ha ms.length ch], .int .i64 t, .string b]) ∧ Sm 500 nx es ms ∧ Dr w.heap.size w' es ms ga cg ha ch ∧ b.size ≤ 4000) ∧ Below w.heap.size w w' ∧ w.heap.size < w'.heap.size := by
  have h1 := draw_new a len cap _ hlen (code_at hc)
  have HR0 : Hid ((w.alloc (.cells #[.string ⟨#[]⟩, .int .i64 0, .int .i64 0, .slice none 0 0, .slice none 0 0] 27)).heap[w.heap.size]? = some (.cells #[.string ⟨#[]⟩, .int .i64 0, .int .i64 0, .slice none 0 0, .slice none 0 0] 27 (0, 0))) := bnew w _ _
  have HB0 : Hid (Below w.heap.size w (w.alloc (.cells #[.string ⟨#[]⟩, .int .i64 0, .int .i64 0, .slice none 0 0, .slice none 0 0] 27))) := (Below.refl _ _).alloc (Nat.le_refl _) _
  clear hc
  go_enter Try.func8, Try.ntmps8
  go_wp2_with (go_at_call 18; fail)
  refine h1.mono ?_
  rintro e w1 ⟨rfl, hc1, hb1⟩
  rw [World.size_alloc] at hc1 hb1
  have hR1 := bstay HR0.out hb1 (by omega)
  have hB1 := HB0.out.trans (hb1.mono (by omega))
  have h2 := draw_stream (w.heap.size + 1) a len cap w1 hc1
  have hlt1 := hc1.lt
  have HR1 : Hid (w1.heap[w.heap.size]? = some (.cells #[.string ⟨#[]⟩, .int .i64 0, .int .i64 0, .slice none 0 0, .slice none 0 0] 27 (0, 0))) := hR1
  have HB1 : Hid (Below w.heap.size w w1) := hB1
  clear h1 hc1 hb1 hR1 hB1 HR0 HB0
  go_wp2_with (go_at_call 19; fail)
  refine h2.mono ?_
  rintro e w2 ⟨⟨lo, nx, es, ms, ga, cg, ha, ch, rfl, hsm, hdr⟩, hc2, hb2⟩
  have HD2 : Hid (Dz a len cap w es ms ga cg ha ch w2) := ⟨st_block HR1.out hb2 (by omega), hc2, HB1.out.trans (hb2.below (by omega) (by omega)), hdr.low (by omega)⟩
  have HSM : Hid (Sm 500 nx es ms) := hsm
  have hsz2 := hb2.size
  clear h2 hsm hdr hc2 hb2 HR1 HB1
  have HN2 : Hid ((w2.alloc (.cells #[.string ⟨#[115]⟩, .int .i64 lo, .int .i64 nx, .slice ga es.length cg, .slice ha ms.length ch] 27)).heap[w2.heap.size]? = some (.cells #[.string ⟨#[115]⟩, .int .i64 lo, .int .i64 nx, .slice ga es.length cg, .slice ha ms.length ch] 27 (0, 0))) := bnew w2 _ _
  have HD3 : Hid (Dz a len cap w es ms ga cg ha ch (w2.alloc (.cells #[.string ⟨#[115]⟩, .int .i64 lo, .int .i64 nx, .slice ga es.length cg, .slice ha ms.length ch] 27))) := HD2.out.step ((Below.refl _ _).alloc (Nat.le_refl _) _)
  have hne2 : w2.heap.size ≠ w.heap.size + 1 := by omega
  have g1 := draw_below (w.heap.size + 1) a len cap 60 _ (by omega) HD3.out.cur
  go_wp2_with (go_at_call 20; fail)
  refine g1.mono ?_
  rintro e w3 ⟨⟨t0, ht0, rfl⟩, hc3, hb3⟩
  have HD4 : Hid (Dz a len cap w es ms ga cg ha ch w3) := HD3.out.draw hc3 hb3
  have HN4 : Hid (w3.heap[w2.heap.size]? = some (.cells #[.string ⟨#[115]⟩, .int .i64 lo, .int .i64 nx, .slice ga es.length cg, .slice ha ms.length ch] 27 (0, 0))) := st_block HN2.out hb3 (by omega)
  have hsz3 : w2.heap.size < w3.heap.size := (Array.getElem?_eq_some_iff.1 HN4.out).1
  have g2 := draw_once (w.heap.size + 1) a len cap 6 w3 (by omega) HD4.out.cur
  clear g1 hc3 hb3 HD3 HN2 HD2
  go_wp2_with (go_at_call 24; fail)
  refine g2.mono ?_
  rintro e w4 ⟨⟨bo, rfl⟩, hc4, hb4⟩
  have HD5 : Hid (Dz a len cap w es ms ga cg ha ch w4) := HD4.out.draw hc4 hb4
  have HN5 : Hid (w4.heap[w2.heap.size]? = some (.cells #[.string ⟨#[115]⟩, .int .i64 lo, .int .i64 nx, .slice ga es.length cg, .slice ha ms.length ch] 27 (0, 0))) := st_block HN4.out hb4 (by omega)
  have hsz4 : w2.heap.size < w4.heap.size := (Array.getElem?_eq_some_iff.1 HN5.out).1
  clear g2 hc4 hb4 HD4 HN4
  cases bo with
  | false =>
    have g4 := draw_once (w.heap.size + 1) a len cap 20 w4 (by omega) HD5.out.cur
    go_wp2_with (go_at_call 24; fail)
    refine g4.mono ?_
    rintro e w6 ⟨⟨bp, rfl⟩, hc6, hb6⟩
    have HD8 : Hid (Dz a len cap w es ms ga cg ha ch w6) := HD5.out.draw hc6 hb6
    have HN8 : Hid (w6.heap[w2.heap.size]? = some (.cells #[.string ⟨#[115]⟩, .int .i64 lo, .int .i64 nx, .slice ga es.length cg, .slice ha ms.length ch] 27 (0, 0))) := st_block HN5.out hb6 (by omega)
    have hsz6 : w2.heap.size < w6.heap.size := (Array.getElem?_eq_some_iff.1 HN8.out).1
    clear g4 hc6 hb6 HD5 HN5
    cases bp with
    | true =>
      go_wp2
      refine cht.region (σ := G) (ws := (fun s : G => [(22, .agg #[.string ⟨#[115]⟩, .int .i64 lo, .int .i64 nx, .slice ga es.length cg, .slice ha ms.length ch]), (23, .int .i64 (60 + t0 : Int)), (24, .pointer (some ⟨w.heap.size + 1, 0, none⟩)), (25, .pointer (some ⟨w.heap.size + 1, 0, none⟩)), (26, .int .i64 s.x), (27, .int .i64 (3000 + (s.x : Int))), (28, .string s.t), (3, .int .i64 (60 + t0 : Int)), (4, .string s.t)])) (js := [4, 6, 7]) (S := (fun g k W => (k ≤ 2 → Dz a len cap w es ms ga cg ha ch W ∧ W.heap[w2.heap.size]? = some (.cells #[.string ⟨#[115]⟩, .int .i64 lo, .int .i64 nx, .slice ga es.length cg, .slice ha ms.length ch] 27 (0, 0))) ∧ (g.x < 2 ∧ g.t.size ≤ 4000) ∧ (k = 3 → Dr w.heap.size W es ms ga cg ha ch ∧ Below w.heap.size w W ∧ W.heap[w.heap.size]? = some (.cells #[.string ⟨#[115]⟩, .int .i64 lo, .int .i64 nx, .slice ga es.length cg, .slice ha ms.length ch] 27 (0, 0))))) [22, 23, 24, 25, 26, 27, 28, 3, 4] ⟨0, 0, 0, ⟨#[]⟩, 0, undef, false⟩ (by kernel_rfl) (by kernel_rfl) (fun _ => rfl) (by kernel_rfl) (by decide) ⟨fun _ => ⟨HD8.out.step (Below.refl _ _).drew, bstay HN8.out (Below.refl _ _).drew (by have := (Array.getElem?_eq_some_iff.1 HN8.out).1; omega)⟩, ⟨by decide, by decide⟩, fun h => (by omega)⟩ ?each ?fin
      case each =>
        refine ⟨cht.quiet 2 rfl (by decide) (.inr ⟨7, _, rfl, rfl, ⟨0, .data⟩, by simp, rfl, rfl⟩) (by simp) (fun s => .agg #[.string ⟨#[115]⟩, .int .i64 lo, .int .i64 nx, .slice ga es.length cg, .slice ha ms.length ch]) (by rintro s _ ⟨⟩; exact dk.sets_on _ (by simp) _ rfl) (fun s k' W hk' hS => by obtain ⟨hZ, hN⟩ := hS.1 hk'; have c0 : W.cell? ⟨w2.heap.size, 0, none⟩ = some (.string ⟨#[115]⟩) := bcell hN rfl; have c1 : W.cell? ⟨w2.heap.size, 1, none⟩ = some (.int .i64 lo) := bcell hN rfl; have c2 : W.cell? ⟨w2.heap.size, 2, none⟩ = some (.int .i64 nx) := bcell hN rfl; have c3 : W.cell? ⟨w2.heap.size, 3, none⟩ = some (.slice ga es.length cg) := bcell hN rfl; have c4 : W.cell? ⟨w2.heap.size, 4, none⟩ = some (.slice ha ms.length ch) := bcell hN rfl; simp [execOp, go_sem, Act.eval, dk.sets_get, List.lookup, c0, c1, c2, c3, c4]), ?_⟩
        refine ⟨cht.quiet 3 rfl (by decide) (.inl rfl) (by simp) (fun s => .int .i64 (60 + t0 : Int)) (by rintro s _ ⟨⟩; exact dk.sets_on _ (by simp) _ rfl) (fun s k' W hk' hS => by simp [execOp, go_sem, Act.eval, dk.sets_get, List.lookup]), ?_⟩
        refine ⟨cht.quiet 3 rfl (by decide) (.inl rfl) (by simp) (fun s => .pointer (some ⟨w.heap.size + 1, 0, none⟩)) (by rintro s _ ⟨⟩; exact dk.sets_on _ (by simp) _ rfl) (fun s k' W hk' hS => by simp [execOp, go_sem, Act.eval, dk.sets_get, List.lookup]), ?_⟩
        refine ⟨cht.quiet 3 rfl (by decide) (.inl rfl) (by simp) (fun s => .pointer (some ⟨w.heap.size + 1, 0, none⟩)) (by rintro s _ ⟨⟩; exact dk.sets_on _ (by simp) _ rfl) (fun s k' W hk' hS => by simp [execOp, go_sem, Act.eval, dk.sets_get, List.lookup]), ?_⟩
        refine ⟨chd.call 0 [4, 5, 6, 7, 8, 9] [26, 27] (by kernel_rfl) (by kernel_rfl) rfl (by decide) rfl (.inl rfl) (by simp) 20 (fun s => #[.pointer (some ⟨w.heap.size + 1, 0, none⟩), .int .i64 2]) (fun s W hS => by exact ⟨by simp [go_sem, Act.eval, dk.sets_get, List.lookup], (draw_below (w.heap.size + 1) a len cap 2 W (by omega) (hS.1 (by omega)).1.cur).mono fun e w9 hh => by obtain ⟨⟨z9, hz9, rfl⟩, k1, k2⟩ := hh; exact ⟨{ s with x := z9 }, _, rfl, (by simp [chd.But]), (by rintro _ ⟨⟩; exact dk.sets_on _ (by simp) _ rfl), fun h => ⟨(hS.1 (by omega)).1.draw k1 k2, st_block (hS.1 (by omega)).2 k2 (by omega)⟩, ⟨hz9, hS.2.1.2⟩, fun h => (by omega)⟩⟩), ?_⟩
        refine ⟨cht.quiet 3 rfl (by decide) (.inl rfl) (by simp) (fun s => .int .i64 (3000 + (s.x : Int))) (by rintro s _ ⟨⟩; exact dk.sets_on _ (by simp) _ rfl) (fun s k' W hk' hS => by have h9 := hS.2.1.1; have hwr : IntKind.i64.wrap (3000 + (s.x : Int)) = 3000 + (s.x : Int) := (by rw [IntKind.wrap_i64]; omega); simp [execOp, go_sem, Act.eval, dk.sets_get, List.lookup, hwr]), ?_⟩
        refine ⟨chd.call 1 [6, 7, 8, 9] [28, 4] (by kernel_rfl) (by kernel_rfl) rfl (by decide) rfl (.inr ⟨⟨4, .chain⟩, by simp, rfl, rfl⟩) (by simp) 26 (fun s => #[.pointer (some ⟨w.heap.size + 1, 0, none⟩), .int .i64 (3000 + (s.x : Int))]) (fun s W hS => by have h9 := draw_bytes (w.heap.size + 1) a len cap (3000 + s.x) W (by have := hS.2.1.1; omega) (hS.1 (by omega)).1.cur; rw [show (((3000 + s.x : Nat)) : Int) = 3000 + (s.x : Int) by omega] at h9; exact ⟨by simp [go_sem, Act.eval, dk.sets_get, List.lookup], h9.mono fun e w9 hh => by obtain ⟨⟨z9, hz9, rfl⟩, k1, k2⟩ := hh; exact ⟨{ s with t := z9 }, _, rfl, (by simp [chd.But]), (by rintro _ ⟨⟩; exact dk.sets_on _ (by simp) _ rfl), fun h => ⟨(hS.1 (by omega)).1.draw k1 k2, st_block (hS.1 (by omega)).2 k2 (by omega)⟩, ⟨hS.2.1.1, (by have h8 := hS.2.1.1; show z9.size ≤ 4000; omega)⟩, fun h => (by omega)⟩⟩), ?_⟩
        refine ⟨cht.sto 2 rfl (by decide) rfl (.inr ⟨⟨6, .chain⟩, by simp, rfl, rfl⟩) (by simp) rfl (fun s W hS => by obtain ⟨hZ, hN⟩ := hS.1 (by omega); have q0 : W.cell? ⟨w.heap.size, 0, none⟩ = some (.string ⟨#[]⟩) := bcell hZ.rb rfl; have q1 : W.cell? ⟨w.heap.size, 1, none⟩ = some (.int .i64 0) := bcell hZ.rb rfl; have q2 : W.cell? ⟨w.heap.size, 2, none⟩ = some (.int .i64 0) := bcell hZ.rb rfl; have q3 : W.cell? ⟨w.heap.size, 3, none⟩ = some (.slice none 0 0) := bcell hZ.rb rfl; have q4 : W.cell? ⟨w.heap.size, 4, none⟩ = some (.slice none 0 0) := bcell hZ.rb rfl; have r0 := bfree hZ.rb 0; have r1 := bfree hZ.rb 1; have r2 := bfree hZ.rb 2; have r3 := bfree hZ.rb 3; have r4 := bfree hZ.rb 4; exact ⟨res5 W w.heap.size (.string ⟨#[115]⟩) (.int .i64 lo) (.int .i64 nx) (.slice ga es.length cg) (.slice ha ms.length ch), by simp [execOp, go_sem, Act.eval, dk.sets_get, List.lookup, q0, q1, q2, q3, q4, r0, r1, r2, r3, r4, res5], fun h => (by omega), hS.2.1, fun _ => ⟨(hZ.done _ _ _ _ _).1, (hZ.done _ _ _ _ _).2, res5_at hZ.rb ..⟩⟩), ?_⟩
        refine ⟨cht.quiet 3 rfl (by decide) (.inl rfl) (by simp) (fun s => .int .i64 (60 + t0 : Int)) (by rintro s _ ⟨⟩; exact dk.sets_on _ (by simp) _ rfl) (fun s k' W hk' hS => by simp [execOp, go_sem, Act.eval, dk.sets_get, List.lookup]), ?_⟩
        exact ⟨cht.quiet 3 rfl (by decide) (.inl rfl) (by simp) (fun s => .string s.t) (by rintro s _ ⟨⟩; exact dk.sets_on _ (by simp) _ rfl) (fun s k' W hk' hS => by simp [execOp, go_sem, Act.eval, dk.sets_get, List.lookup]), trivial⟩
      case fin =>
        intro s x5 hS
        have HST : s.t.size ≤ 4000 := hS.2.1.2
        obtain ⟨hd5, hb5, hr5⟩ := hS.2.2 rfl
        have q0 : x5.cell? ⟨w.heap.size, 0, none⟩ = some (.string ⟨#[115]⟩) := bcell hr5 rfl
        have q1 : x5.cell? ⟨w.heap.size, 1, none⟩ = some (.int .i64 lo) := bcell hr5 rfl
        have q2 : x5.cell? ⟨w.heap.size, 2, none⟩ = some (.int .i64 nx) := bcell hr5 rfl
        have q3 : x5.cell? ⟨w.heap.size, 3, none⟩ = some (.slice ga es.length cg) := bcell hr5 rfl
        have q4 : x5.cell? ⟨w.heap.size, 4, none⟩ = some (.slice ha ms.length ch) := bcell hr5 rfl
        have HD5 : Hid (Dr w.heap.size x5 es ms ga cg ha ch ∧ Below w.heap.size w x5 ∧ w.heap.size < x5.heap.size) := ⟨hd5, hb5, (Array.getElem?_eq_some_iff.1 hr5).1⟩
        obtain ⟨sx, sy, sA, sT, sU, sV, sB⟩ := s
        simp only [dk.sets]
        clear hS hd5 hb5 hr5
        go_wp2
        exact bodyPost_ret (v := .tuple #[.agg #[.string ⟨#[115]⟩, .int .i64 lo, .int .i64 nx, .slice ga es.length cg, .slice ha ms.length ch], .int .i64 (60 + t0 : Int), .string sT]) (by simp [results, Try.results8, go_sem, q0, q1, q2, q3, q4]) rfl ⟨⟨lo, nx, es, ms, ga, cg, ha, ch, (60 + t0 : Int), sT, rfl, HSM.out, HD5.out.1, HST⟩, HD5.out.2⟩
    | false =>
      go_wp2
      refine cht.region (σ := G) (ws := (fun s : G => [(29, .agg #[.string ⟨#[115]⟩, .int .i64 lo, .int .i64 nx, .slice ga es.length cg, .slice ha ms.length ch]), (30, .int .i64 (60 + t0 : Int)), (31, .pointer (some ⟨w.heap.size + 1, 0, none⟩)), (32, .pointer (some ⟨w.heap.size + 1, 0, none⟩)), (33, .int .i64 s.x), (34, .string s.t), (3, .int .i64 (60 + t0 : Int)), (4, .string s.t)])) (js := [4, 5, 6]) (S := (fun g k W => (k ≤ 2 → Dz a len cap w es ms ga cg ha ch W ∧ W.heap[w2.heap.size]? = some (.cells #[.string ⟨#[115]⟩, .int .i64 lo, .int .i64 nx, .slice ga es.length cg, .slice ha ms.length ch] 27 (0, 0))) ∧ (g.x < 5 ∧ g.t.size ≤ 4000) ∧ (k = 3 → Dr w.heap.size W es ms ga cg ha ch ∧ Below w.heap.size w W ∧ W.heap[w.heap.size]? = some (.cells #[.string ⟨#[115]⟩, .int .i64 lo, .int .i64 nx, .slice ga es.length cg, .slice ha ms.length ch] 27 (0, 0))))) [29, 30, 31, 32, 33, 34, 3, 4] ⟨0, 0, 0, ⟨#[]⟩, 0, undef, false⟩ (by kernel_rfl) (by kernel_rfl) (fun _ => rfl) (by kernel_rfl) (by decide) ⟨fun _ => ⟨HD8.out.step (Below.refl _ _).drew, bstay HN8.out (Below.refl _ _).drew (by have := (Array.getElem?_eq_some_iff.1 HN8.out).1; omega)⟩, ⟨by decide, by decide⟩, fun h => (by omega)⟩ ?each ?fin
      case each =>
        refine ⟨cht.quiet 2 rfl (by decide) (.inr ⟨6, _, rfl, rfl, ⟨0, .data⟩, by simp, rfl, rfl⟩) (by simp) (fun s => .agg #[.string ⟨#[115]⟩, .int .i64 lo, .int .i64 nx, .slice ga es.length cg, .slice ha ms.length ch]) (by rintro s _ ⟨⟩; exact dk.sets_on _ (by simp) _ rfl) (fun s k' W hk' hS => by obtain ⟨hZ, hN⟩ := hS.1 hk'; have c0 : W.cell? ⟨w2.heap.size, 0, none⟩ = some (.string ⟨#[115]⟩) := bcell hN rfl; have c1 : W.cell? ⟨w2.heap.size, 1, none⟩ = some (.int .i64 lo) := bcell hN rfl; have c2 : W.cell? ⟨w2.heap.size, 2, none⟩ = some (.int .i64 nx) := bcell hN rfl; have c3 : W.cell? ⟨w2.heap.size, 3, none⟩ = some (.slice ga es.length cg) := bcell hN rfl; have c4 : W.cell? ⟨w2.heap.size, 4, none⟩ = some (.slice ha ms.length ch) := bcell hN rfl; simp [execOp, go_sem, Act.eval, dk.sets_get, List.lookup, c0, c1, c2, c3, c4]), ?_⟩
        refine ⟨cht.quiet 3 rfl (by decide) (.inl rfl) (by simp) (fun s => .int .i64 (60 + t0 : Int)) (by rintro s _ ⟨⟩; exact dk.sets_on _ (by simp) _ rfl) (fun s k' W hk' hS => by simp [execOp, go_sem, Act.eval, dk.sets_get, List.lookup]), ?_⟩
        refine ⟨cht.quiet 3 rfl (by decide) (.inl rfl) (by simp) (fun s => .pointer (some ⟨w.heap.size + 1, 0, none⟩)) (by rintro s _ ⟨⟩; exact dk.sets_on _ (by simp) _ rfl) (fun s k' W hk' hS => by simp [execOp, go_sem, Act.eval, dk.sets_get, List.lookup]), ?_⟩
        refine ⟨cht.quiet 3 rfl (by decide) (.inl rfl) (by simp) (fun s => .pointer (some ⟨w.heap.size + 1, 0, none⟩)) (by rintro s _ ⟨⟩; exact dk.sets_on _ (by simp) _ rfl) (fun s k' W hk' hS => by simp [execOp, go_sem, Act.eval, dk.sets_get, List.lookup]), ?_⟩
        refine ⟨chd.call 0 [4, 5, 6, 7, 8] [33] (by kernel_rfl) (by kernel_rfl) rfl (by decide) rfl (.inl rfl) (by simp) 20 (fun s => #[.pointer (some ⟨w.heap.size + 1, 0, none⟩), .int .i64 5]) (fun s W hS => by exact ⟨by simp [go_sem, Act.eval, dk.sets_get, List.lookup], (draw_below (w.heap.size + 1) a len cap 5 W (by omega) (hS.1 (by omega)).1.cur).mono fun e w9 hh => by obtain ⟨⟨z9, hz9, rfl⟩, k1, k2⟩ := hh; exact ⟨{ s with x := z9 }, _, rfl, (by simp [chd.But]), (by rintro _ ⟨⟩; exact dk.sets_on _ (by simp) _ rfl), fun h => ⟨(hS.1 (by omega)).1.draw k1 k2, st_block (hS.1 (by omega)).2 k2 (by omega)⟩, ⟨hz9, hS.2.1.2⟩, fun h => (by omega)⟩⟩), ?_⟩
        refine ⟨chd.call 1 [5, 6, 7, 8] [34, 4] (by kernel_rfl) (by kernel_rfl) rfl (by decide) rfl (.inr ⟨⟨4, .data⟩, by simp, rfl, rfl⟩) (by simp) 26 (fun s => #[.pointer (some ⟨w.heap.size + 1, 0, none⟩), .int .i64 s.x]) (fun s W hS => by have h9 := draw_bytes (w.heap.size + 1) a len cap (s.x) W (by have := hS.2.1.1; omega) (hS.1 (by omega)).1.cur; exact ⟨by simp [go_sem, Act.eval, dk.sets_get, List.lookup], h9.mono fun e w9 hh => by obtain ⟨⟨z9, hz9, rfl⟩, k1, k2⟩ := hh; exact ⟨{ s with t := z9 }, _, rfl, (by simp [chd.But]), (by rintro _ ⟨⟩; exact dk.sets_on _ (by simp) _ rfl), fun h => ⟨(hS.1 (by omega)).1.draw k1 k2, st_block (hS.1 (by omega)).2 k2 (by omega)⟩, ⟨hS.2.1.1, (by have h8 := hS.2.1.1; show z9.size ≤ 4000; omega)⟩, fun h => (by omega)⟩⟩), ?_⟩
        refine ⟨cht.sto 2 rfl (by decide) rfl (.inr ⟨⟨5, .chain⟩, by simp, rfl, rfl⟩) (by simp) rfl (fun s W hS => by obtain ⟨hZ, hN⟩ := hS.1 (by omega); have q0 : W.cell? ⟨w.heap.size, 0, none⟩ = some (.string ⟨#[]⟩) := bcell hZ.rb rfl; have q1 : W.cell? ⟨w.heap.size, 1, none⟩ = some (.int .i64 0) := bcell hZ.rb rfl; have q2 : W.cell? ⟨w.heap.size, 2, none⟩ = some (.int .i64 0) := bcell hZ.rb rfl; have q3 : W.cell? ⟨w.heap.size, 3, none⟩ = some (.slice none 0 0) := bcell hZ.rb rfl; have q4 : W.cell? ⟨w.heap.size, 4, none⟩ = some (.slice none 0 0) := bcell hZ.rb rfl; have r0 := bfree hZ.rb 0; have r1 := bfree hZ.rb 1; have r2 := bfree hZ.rb 2; have r3 := bfree hZ.rb 3; have r4 := bfree hZ.rb 4; exact ⟨res5 W w.heap.size (.string ⟨#[115]⟩) (.int .i64 lo) (.int .i64 nx) (.slice ga es.length cg) (.slice ha ms.length ch), by simp [execOp, go_sem, Act.eval, dk.sets_get, List.lookup, q0, q1, q2, q3, q4, r0, r1, r2, r3, r4, res5], fun h => (by omega), hS.2.1, fun _ => ⟨(hZ.done _ _ _ _ _).1, (hZ.done _ _ _ _ _).2, res5_at hZ.rb ..⟩⟩), ?_⟩
        refine ⟨cht.quiet 3 rfl (by decide) (.inl rfl) (by simp) (fun s => .int .i64 (60 + t0 : Int)) (by rintro s _ ⟨⟩; exact dk.sets_on _ (by simp) _ rfl) (fun s k' W hk' hS => by simp [execOp, go_sem, Act.eval, dk.sets_get, List.lookup]), ?_⟩
        exact ⟨cht.quiet 3 rfl (by decide) (.inl rfl) (by simp) (fun s => .string s.t) (by rintro s _ ⟨⟩; exact dk.sets_on _ (by simp) _ rfl) (fun s k' W hk' hS => by simp [execOp, go_sem, Act.eval, dk.sets_get, List.lookup]), trivial⟩
      case fin =>
        intro s x5 hS
        have HST : s.t.size ≤ 4000 := hS.2.1.2
        obtain ⟨hd5, hb5, hr5⟩ := hS.2.2 rfl
        have q0 : x5.cell? ⟨w.heap.size, 0, none⟩ = some (.string ⟨#[115]⟩) := bcell hr5 rfl
        have q1 : x5.cell? ⟨w.heap.size, 1, none⟩ = some (.int .i64 lo) := bcell hr5 rfl
        have q2 : x5.cell? ⟨w.heap.size, 2, none⟩ = some (.int .i64 nx) := bcell hr5 rfl
        have q3 : x5.cell? ⟨w.heap.size, 3, none⟩ = some (.slice ga es.length cg) := bcell hr5 rfl
        have q4 : x5.cell? ⟨w.heap.size, 4, none⟩ = some (.slice ha ms.length ch) := bcell hr5 rfl
        have HD5 : Hid (Dr w.heap.size x5 es ms ga cg ha ch ∧ Below w.heap.size w x5 ∧ w.heap.size < x5.heap.size) := ⟨hd5, hb5, (Array.getElem?_eq_some_iff.1 hr5).1⟩
        obtain ⟨sx, sy, sA, sT, sU, sV, sB⟩ := s
        simp only [dk.sets]
        clear hS hd5 hb5 hr5
        go_wp2
        exact bodyPost_ret (v := .tuple #[.agg #[.string ⟨#[115]⟩, .int .i64 lo, .int .i64 nx, .slice ga es.length cg, .slice ha ms.length ch], .int .i64 (60 + t0 : Int), .string sT]) (by simp [results, Try.results8, go_sem, q0, q1, q2, q3, q4]) rfl ⟨⟨lo, nx, es, ms, ga, cg, ha, ch, (60 + t0 : Int), sT, rfl, HSM.out, HD5.out.1, HST⟩, HD5.out.2⟩
  | true =>
    have g3 := draw_pick_int (w.heap.size + 1) a len cap w4.heap.size 4 ints4 _ (by omega) (by omega) (at_list w4 ints4 3) (HD5.out.step ((Below.refl _ _).alloc (Nat.le_refl _) _)).cur
    have HD6 : Hid (Dz a len cap w es ms ga cg ha ch (w4.alloc (.cells (ints4.map (Value.int .i64)).toArray 3))) := HD5.out.step ((Below.refl _ _).alloc (Nat.le_refl _) _)
    have HN6 : Hid ((w4.alloc (.cells (ints4.map (Value.int .i64)).toArray 3)).heap[w2.heap.size]? = some (.cells #[.string ⟨#[115]⟩, .int .i64 lo, .int .i64 nx, .slice ga es.length cg, .slice ha ms.length ch] 27 (0, 0))) := bold HN5.out _
    go_wp2_with (go_at_call 25; fail)
    refine g3.mono ?_
    rintro e w5 ⟨⟨tt, htt, rfl⟩, hc5, hb5⟩
    have HD7 : Hid (Dz a len cap w es ms ga cg ha ch w5) := HD6.out.draw hc5 hb5
    have HN7 : Hid (w5.heap[w2.heap.size]? = some (.cells #[.string ⟨#[115]⟩, .int .i64 lo, .int .i64 nx, .slice ga es.length cg, .slice ha ms.length ch] 27 (0, 0))) := st_block HN6.out hb5 (by omega)
    have hsz5 : w2.heap.size < w5.heap.size := (Array.getElem?_eq_some_iff.1 HN7.out).1
    clear g3 hc5 hb5 HD5 HN5 HD6 HN6 htt
    have g4 := draw_once (w.heap.size + 1) a len cap 20 w5 (by omega) HD7.out.cur
    go_wp2_with (go_at_call 24; fail)
    refine g4.mono ?_
    rintro e w6 ⟨⟨bp, rfl⟩, hc6, hb6⟩
    have HD8 : Hid (Dz a len cap w es ms ga cg ha ch w6) := HD7.out.draw hc6 hb6
    have HN8 : Hid (w6.heap[w2.heap.size]? = some (.cells #[.string ⟨#[115]⟩, .int .i64 lo, .int .i64 nx, .slice ga es.length cg, .slice ha ms.length ch] 27 (0, 0))) := st_block HN7.out hb6 (by omega)
    have hsz6 : w2.heap.size < w6.heap.size := (Array.getElem?_eq_some_iff.1 HN8.out).1
    clear g4 hc6 hb6 HD7 HN7
    cases bp with
    | true =>
      go_wp2
      refine cht.region (σ := G) (ws := (fun s : G => [(22, .agg #[.string ⟨#[115]⟩, .int .i64 lo, .int .i64 nx, .slice ga es.length cg, .slice ha ms.length ch]), (23, .int .i64 tt), (24, .pointer (some ⟨w.heap.size + 1, 0, none⟩)), (25, .pointer (some ⟨w.heap.size + 1, 0, none⟩)), (26, .int .i64 s.x), (27, .int .i64 (3000 + (s.x : Int))), (28, .string s.t), (3, .int .i64 tt), (4, .string s.t)])) (js := [4, 6, 7]) (S := (fun g k W => (k ≤ 2 → Dz a len cap w es ms ga cg ha ch W ∧ W.heap[w2.heap.size]? = some (.cells #[.string ⟨#[115]⟩, .int .i64 lo, .int .i64 nx, .slice ga es.length cg, .slice ha ms.length ch] 27 (0, 0))) ∧ (g.x < 2 ∧ g.t.size ≤ 4000) ∧ (k = 3 → Dr w.heap.size W es ms ga cg ha ch ∧ Below w.heap.size w W ∧ W.heap[w.heap.size]? = some (.cells #[.string ⟨#[115]⟩, .int .i64 lo, .int .i64 nx, .slice ga es.length cg, .slice ha ms.length ch] 27 (0, 0))))) [22, 23, 24, 25, 26, 27, 28, 3, 4] ⟨0, 0, 0, ⟨#[]⟩, 0, undef, false⟩ (by kernel_rfl) (by kernel_rfl) (fun _ => rfl) (by kernel_rfl) (by decide) ⟨fun _ => ⟨HD8.out.step (Below.refl _ _).drew, bstay HN8.out (Below.refl _ _).drew (by have := (Array.getElem?_eq_some_iff.1 HN8.out).1; omega)⟩, ⟨by decide, by decide⟩, fun h => (by omega)⟩ ?each ?fin
      case each =>
        refine ⟨cht.quiet 2 rfl (by decide) (.inr ⟨7, _, rfl, rfl, ⟨0, .data⟩, by simp, rfl, rfl⟩) (by simp) (fun s => .agg #[.string ⟨#[115]⟩, .int .i64 lo, .int .i64 nx, .slice ga es.length cg, .slice ha ms.length ch]) (by rintro s _ ⟨⟩; exact dk.sets_on _ (by simp) _ rfl) (fun s k' W hk' hS => by obtain ⟨hZ, hN⟩ := hS.1 hk'; have c0 : W.cell? ⟨w2.heap.size, 0, none⟩ = some (.string ⟨#[115]⟩) := bcell hN rfl; have c1 : W.cell? ⟨w2.heap.size, 1, none⟩ = some (.int .i64 lo) := bcell hN rfl; have c2 : W.cell? ⟨w2.heap.size, 2, none⟩ = some (.int .i64 nx) := bcell hN rfl; have c3 : W.cell? ⟨w2.heap.size, 3, none⟩ = some (.slice ga es.length cg) := bcell hN rfl; have c4 : W.cell? ⟨w2.heap.size, 4, none⟩ = some (.slice ha ms.length ch) := bcell hN rfl; simp [execOp, go_sem, Act.eval, dk.sets_get, List.lookup, c0, c1, c2, c3, c4]), ?_⟩
        refine ⟨cht.quiet 3 rfl (by decide) (.inl rfl) (by simp) (fun s => .int .i64 tt) (by rintro s _ ⟨⟩; exact dk.sets_on _ (by simp) _ rfl) (fun s k' W hk' hS => by simp [execOp, go_sem, Act.eval, dk.sets_get, List.lookup]), ?_⟩
        refine ⟨cht.quiet 3 rfl (by decide) (.inl rfl) (by simp) (fun s => .pointer (some ⟨w.heap.size + 1, 0, none⟩)) (by rintro s _ ⟨⟩; exact dk.sets_on _ (by simp) _ rfl) (fun s k' W hk' hS => by simp [execOp, go_sem, Act.eval, dk.sets_get, List.lookup]), ?_⟩
        refine ⟨cht.quiet 3 rfl (by decide) (.inl rfl) (by simp) (fun s => .pointer (some ⟨w.heap.size + 1, 0, none⟩)) (by rintro s _ ⟨⟩; exact dk.sets_on _ (by simp) _ rfl) (fun s k' W hk' hS => by simp [execOp, go_sem, Act.eval, dk.sets_get, List.lookup]), ?_⟩
        refine ⟨chd.call 0 [4, 5, 6, 7, 8, 9] [26, 27] (by kernel_rfl) (by kernel_rfl) rfl (by decide) rfl (.inl rfl) (by simp) 20 (fun s => #[.pointer (some ⟨w.heap.size + 1, 0, none⟩), .int .i64 2]) (fun s W hS => by exact ⟨by simp [go_sem, Act.eval, dk.sets_get, List.lookup], (draw_below (w.heap.size + 1) a len cap 2 W (by omega) (hS.1 (by omega)).1.cur).mono fun e w9 hh => by obtain ⟨⟨z9, hz9, rfl⟩, k1, k2⟩ := hh; exact ⟨{ s with x := z9 }, _, rfl, (by simp [chd.But]), (by rintro _ ⟨⟩; exact dk.sets_on _ (by simp) _ rfl), fun h => ⟨(hS.1 (by omega)).1.draw k1 k2, st_block (hS.1 (by omega)).2 k2 (by omega)⟩, ⟨hz9, hS.2.1.2⟩, fun h => (by omega)⟩⟩), ?_⟩
        refine ⟨cht.quiet 3 rfl (by decide) (.inl rfl) (by simp) (fun s => .int .i64 (3000 + (s.x : Int))) (by rintro s _ ⟨⟩; exact dk.sets_on _ (by simp) _ rfl) (fun s k' W hk' hS => by have h9 := hS.2.1.1; have hwr : IntKind.i64.wrap (3000 + (s.x : Int)) = 3000 + (s.x : Int) := (by rw [IntKind.wrap_i64]; omega); simp [execOp, go_sem, Act.eval, dk.sets_get, List.lookup, hwr]), ?_⟩
        refine ⟨chd.call 1 [6, 7, 8, 9] [28, 4] (by kernel_rfl) (by kernel_rfl) rfl (by decide) rfl (.inr ⟨⟨4, .chain⟩, by simp, rfl, rfl⟩) (by simp) 26 (fun s => #[.pointer (some ⟨w.heap.size + 1, 0, none⟩), .int .i64 (3000 + (s.x : Int))]) (fun s W hS => by have h9 := draw_bytes (w.heap.size + 1) a len cap (3000 + s.x) W (by have := hS.2.1.1; omega) (hS.1 (by omega)).1.cur; rw [show (((3000 + s.x : Nat)) : Int) = 3000 + (s.x : Int) by omega] at h9; exact ⟨by simp [go_sem, Act.eval, dk.sets_get, List.lookup], h9.mono fun e w9 hh => by obtain ⟨⟨z9, hz9, rfl⟩, k1, k2⟩ := hh; exact ⟨{ s with t := z9 }, _, rfl, (by simp [chd.But]), (by rintro _ ⟨⟩; exact dk.sets_on _ (by simp) _ rfl), fun h => ⟨(hS.1 (by omega)).1.draw k1 k2, st_block (hS.1 (by omega)).2 k2 (by omega)⟩, ⟨hS.2.1.1, (by have h8 := hS.2.1.1; show z9.size ≤ 4000; omega)⟩, fun h => (by omega)⟩⟩), ?_⟩
        refine ⟨cht.sto 2 rfl (by decide) rfl (.inr ⟨⟨6, .chain⟩, by simp, rfl, rfl⟩) (by simp) rfl (fun s W hS => by obtain ⟨hZ, hN⟩ := hS.1 (by omega); have q0 : W.cell? ⟨w.heap.size, 0, none⟩ = some (.string ⟨#[]⟩) := bcell hZ.rb rfl; have q1 : W.cell? ⟨w.heap.size, 1, none⟩ = some (.int .i64 0) := bcell hZ.rb rfl; have q2 : W.cell? ⟨w.heap.size, 2, none⟩ = some (.int .i64 0) := bcell hZ.rb rfl; have q3 : W.cell? ⟨w.heap.size, 3, none⟩ = some (.slice none 0 0) := bcell hZ.rb rfl; have q4 : W.cell? ⟨w.heap.size, 4, none⟩ = some (.slice none 0 0) := bcell hZ.rb rfl; have r0 := bfree hZ.rb 0; have r1 := bfree hZ.rb 1; have r2 := bfree hZ.rb 2; have r3 := bfree hZ.rb 3; have r4 := bfree hZ.rb 4; exact ⟨res5 W w.heap.size (.string ⟨#[115]⟩) (.int .i64 lo) (.int .i64 nx) (.slice ga es.length cg) (.slice ha ms.length ch), by simp [execOp, go_sem, Act.eval, dk.sets_get, List.lookup, q0, q1, q2, q3, q4, r0, r1, r2, r3, r4, res5], fun h => (by omega), hS.2.1, fun _ => ⟨(hZ.done _ _ _ _ _).1, (hZ.done _ _ _ _ _).2, res5_at hZ.rb ..⟩⟩), ?_⟩
        refine ⟨cht.quiet 3 rfl (by decide) (.inl rfl) (by simp) (fun s => .int .i64 tt) (by rintro s _ ⟨⟩; exact dk.sets_on _ (by simp) _ rfl) (fun s k' W hk' hS => by simp [execOp, go_sem, Act.eval, dk.sets_get, List.lookup]), ?_⟩
        exact ⟨cht.quiet 3 rfl (by decide) (.inl rfl) (by simp) (fun s => .string s.t) (by rintro s _ ⟨⟩; exact dk.sets_on _ (by simp) _ rfl) (fun s k' W hk' hS => by simp [execOp, go_sem, Act.eval, dk.sets_get, List.lookup]), trivial⟩
      case fin =>
        intro s x5 hS
        have HST : s.t.size ≤ 4000 := hS.2.1.2
        obtain ⟨hd5, hb5, hr5⟩ := hS.2.2 rfl
        have q0 : x5.cell? ⟨w.heap.size, 0, none⟩ = some (.string ⟨#[115]⟩) := bcell hr5 rfl
        have q1 : x5.cell? ⟨w.heap.size, 1, none⟩ = some (.int .i64 lo) := bcell hr5 rfl
        have q2 : x5.cell? ⟨w.heap.size, 2, none⟩ = some (.int .i64 nx) := bcell hr5 rfl
        have q3 : x5.cell? ⟨w.heap.size, 3, none⟩ = some (.slice ga es.length cg) := bcell hr5 rfl
        have q4 : x5.cell? ⟨w.heap.size, 4, none⟩ = some (.slice ha ms.length ch) := bcell hr5 rfl
        have HD5 : Hid (Dr w.heap.size x5 es ms ga cg ha ch ∧ Below w.heap.size w x5 ∧ w.heap.size < x5.heap.size) := ⟨hd5, hb5, (Array.getElem?_eq_some_iff.1 hr5).1⟩
        obtain ⟨sx, sy, sA, sT, sU, sV, sB⟩ := s
        simp only [dk.sets]
        clear hS hd5 hb5 hr5
        go_wp2
        exact bodyPost_ret (v := .tuple #[.agg #[.string ⟨#[115]⟩, .int .i64 lo, .int .i64 nx, .slice ga es.length cg, .slice ha ms.length ch], .int .i64 tt, .string sT]) (by simp [results, Try.results8, go_sem, q0, q1, q2, q3, q4]) rfl ⟨⟨lo, nx, es, ms, ga, cg, ha, ch, tt, sT, rfl, HSM.out, HD5.out.1, HST⟩, HD5.out.2⟩
    | false =>
      go_wp2
      refine cht.region (σ := G) (ws := (fun s : G => [(29, .agg #[.string ⟨#[115]⟩, .int .i64 lo, .int .i64 nx, .slice ga es.length cg, .slice ha ms.length ch]), (30, .int .i64 tt), (31, .pointer (some ⟨w.heap.size + 1, 0, none⟩)), (32, .pointer (some ⟨w.heap.size + 1, 0, none⟩)), (33, .int .i64 s.x), (34, .string s.t), (3, .int .i64 tt), (4, .string s.t)])) (js := [4, 5, 6]) (S := (fun g k W => (k ≤ 2 → Dz a len cap w es ms ga cg ha ch W ∧ W.heap[w2.heap.size]? = some (.cells #[.string ⟨#[115]⟩, .int .i64 lo, .int .i64 nx, .slice ga es.length cg, .slice ha ms.length ch] 27 (0, 0))) ∧ (g.x < 5 ∧ g.t.size ≤ 4000) ∧ (k = 3 → Dr w.heap.size W es ms ga cg ha ch ∧ Below w.heap.size w W ∧ W.heap[w.heap.size]? = some (.cells #[.string ⟨#[115]⟩, .int .i64 lo, .int .i64 nx, .slice ga es.length cg, .slice ha ms.length ch] 27 (0, 0))))) [29, 30, 31, 32, 33, 34, 3, 4] ⟨0, 0, 0, ⟨#[]⟩, 0, undef, false⟩ (by kernel_rfl) (by kernel_rfl) (fun _ => rfl) (by kernel_rfl) (by decide) ⟨fun _ => ⟨HD8.out.step (Below.refl _ _).drew, bstay HN8.out (Below.refl _ _).drew (by have := (Array.getElem?_eq_some_iff.1 HN8.out).1; omega)⟩, ⟨by decide, by decide⟩, fun h => (by omega)⟩ ?each ?fin
      case each =>
        refine ⟨cht.quiet 2 rfl (by decide) (.inr ⟨6, _, rfl, rfl, ⟨0, .data⟩, by simp, rfl, rfl⟩) (by simp) (fun s => .agg #[.string ⟨#[115]⟩, .int .i64 lo, .int .i64 nx, .slice ga es.length cg, .slice ha ms.length ch]) (by rintro s _ ⟨⟩; exact dk.sets_on _ (by simp) _ rfl) (fun s k' W hk' hS => by obtain ⟨hZ, hN⟩ := hS.1 hk'; have c0 : W.cell? ⟨w2.heap.size, 0, none⟩ = some (.string ⟨#[115]⟩) := bcell hN rfl; have c1 : W.cell? ⟨w2.heap.size, 1, none⟩ = some (.int .i64 lo) := bcell hN rfl; have c2 : W.cell? ⟨w2.heap.size, 2, none⟩ = some (.int .i64 nx) := bcell hN rfl; have c3 : W.cell? ⟨w2.heap.size, 3, none⟩ = some (.slice ga es.length cg) := bcell hN rfl; have c4 : W.cell? ⟨w2.heap.size, 4, none⟩ = some (.slice ha ms.length ch) := bcell hN rfl; simp [execOp, go_sem, Act.eval, dk.sets_get, List.lookup, c0, c1, c2, c3, c4]), ?_⟩
        refine ⟨cht.quiet 3 rfl (by decide) (.inl rfl) (by simp) (fun s => .int .i64 tt) (by rintro s _ ⟨⟩; exact dk.sets_on _ (by simp) _ rfl) (fun s k' W hk' hS => by simp [execOp, go_sem, Act.eval, dk.sets_get, List.lookup]), ?_⟩
        refine ⟨cht.quiet 3 rfl (by decide) (.inl rfl) (by simp) (fun s => .pointer (some ⟨w.heap.size + 1, 0, none⟩)) (by rintro s _ ⟨⟩; exact dk.sets_on _ (by simp) _ rfl) (fun s k' W hk' hS => by simp [execOp, go_sem, Act.eval, dk.sets_get, List.lookup]), ?_⟩
        refine ⟨cht.quiet 3 rfl (by decide) (.inl rfl) (by simp) (fun s => .pointer (some ⟨w.heap.size + 1, 0, none⟩)) (by rintro s _ ⟨⟩; exact dk.sets_on _ (by simp) _ rfl) (fun s k' W hk' hS => by simp [execOp, go_sem, Act.eval, dk.sets_get, List.lookup]), ?_⟩
        refine ⟨chd.call 0 [4, 5, 6, 7, 8] [33] (by kernel_rfl) (by kernel_rfl) rfl (by decide) rfl (.inl rfl) (by simp) 20 (fun s => #[.pointer (some ⟨w.heap.size + 1, 0, none⟩), .int .i64 5]) (fun s W hS => by exact ⟨by simp [go_sem, Act.eval, dk.sets_get, List.lookup], (draw_below (w.heap.size + 1) a len cap 5 W (by omega) (hS.1 (by omega)).1.cur).mono fun e w9 hh => by obtain ⟨⟨z9, hz9, rfl⟩, k1, k2⟩ := hh; exact ⟨{ s with x := z9 }, _, rfl, (by simp [chd.But]), (by rintro _ ⟨⟩; exact dk.sets_on _ (by simp) _ rfl), fun h => ⟨(hS.1 (by omega)).1.draw k1 k2, st_block (hS.1 (by omega)).2 k2 (by omega)⟩, ⟨hz9, hS.2.1.2⟩, fun h => (by omega)⟩⟩), ?_⟩
        refine ⟨chd.call 1 [5, 6, 7, 8] [34, 4] (by kernel_rfl) (by kernel_rfl) rfl (by decide) rfl (.inr ⟨⟨4, .data⟩, by simp, rfl, rfl⟩) (by simp) 26 (fun s => #[.pointer (some ⟨w.heap.size + 1, 0, none⟩), .int .i64 s.x]) (fun s W hS => by have h9 := draw_bytes (w.heap.size + 1) a len cap (s.x) W (by have := hS.2.1.1; omega) (hS.1 (by omega)).1.cur; exact ⟨by simp [go_sem, Act.eval, dk.sets_get, List.lookup], h9.mono fun e w9 hh => by obtain ⟨⟨z9, hz9, rfl⟩, k1, k2⟩ := hh; exact ⟨{ s with t := z9 }, _, rfl, (by simp [chd.But]), (by rintro _ ⟨⟩; exact dk.sets_on _ (by simp) _ rfl), fun h => ⟨(hS.1 (by omega)).1.draw k1 k2, st_block (hS.1 (by omega)).2 k2 (by omega)⟩, ⟨hS.2.1.1, (by have h8 := hS.2.1.1; show z9.size ≤ 4000; omega)⟩, fun h => (by omega)⟩⟩), ?_⟩
        refine ⟨cht.sto 2 rfl (by decide) rfl (.inr ⟨⟨5, .chain⟩, by simp, rfl, rfl⟩) (by simp) rfl (fun s W hS => by obtain ⟨hZ, hN⟩ := hS.1 (by omega); have q0 : W.cell? ⟨w.heap.size, 0, none⟩ = some (.string ⟨#[]⟩) := bcell hZ.rb rfl; have q1 : W.cell? ⟨w.heap.size, 1, none⟩ = some (.int .i64 0) := bcell hZ.rb rfl; have q2 : W.cell? ⟨w.heap.size, 2, none⟩ = some (.int .i64 0) := bcell hZ.rb rfl; have q3 : W.cell? ⟨w.heap.size, 3, none⟩ = some (.slice none 0 0) := bcell hZ.rb rfl; have q4 : W.cell? ⟨w.heap.size, 4, none⟩ = some (.slice none 0 0) := bcell hZ.rb rfl; have r0 := bfree hZ.rb 0; have r1 := bfree hZ.rb 1; have r2 := bfree hZ.rb 2; have r3 := bfree hZ.rb 3; have r4 := bfree hZ.rb 4; exact ⟨res5 W w.heap.size (.string ⟨#[115]⟩) (.int .i64 lo) (.int .i64 nx) (.slice ga es.length cg) (.slice ha ms.length ch), by simp [execOp, go_sem, Act.eval, dk.sets_get, List.lookup, q0, q1, q2, q3, q4, r0, r1, r2, r3, r4, res5], fun h => (by omega), hS.2.1, fun _ => ⟨(hZ.done _ _ _ _ _).1, (hZ.done _ _ _ _ _).2, res5_at hZ.rb ..⟩⟩), ?_⟩
        refine ⟨cht.quiet 3 rfl (by decide) (.inl rfl) (by simp) (fun s => .int .i64 tt) (by rintro s _ ⟨⟩; exact dk.sets_on _ (by simp) _ rfl) (fun s k' W hk' hS => by simp [execOp, go_sem, Act.eval, dk.sets_get, List.lookup]), ?_⟩
        exact ⟨cht.quiet 3 rfl (by decide) (.inl rfl) (by simp) (fun s => .string s.t) (by rintro s _ ⟨⟩; exact dk.sets_on _ (by simp) _ rfl) (fun s k' W hk' hS => by simp [execOp, go_sem, Act.eval, dk.sets_get, List.lookup]), trivial⟩
      case fin =>
        intro s x5 hS
        have HST : s.t.size ≤ 4000 := hS.2.1.2
        obtain ⟨hd5, hb5, hr5⟩ := hS.2.2 rfl
        have q0 : x5.cell? ⟨w.heap.size, 0, none⟩ = some (.string ⟨#[115]⟩) := bcell hr5 rfl
        have q1 : x5.cell? ⟨w.heap.size, 1, none⟩ = some (.int .i64 lo) := bcell hr5 rfl
        have q2 : x5.cell? ⟨w.heap.size, 2, none⟩ = some (.int .i64 nx) := bcell hr5 rfl
        have q3 : x5.cell? ⟨w.heap.size, 3, none⟩ = some (.slice ga es.length cg) := bcell hr5 rfl
        have q4 : x5.cell? ⟨w.heap.size, 4, none⟩ = some (.slice ha ms.length ch) := bcell hr5 rfl
        have HD5 : Hid (Dr w.heap.size x5 es ms ga cg ha ch ∧ Below w.heap.size w x5 ∧ w.heap.size < x5.heap.size) := ⟨hd5, hb5, (Array.getElem?_eq_some_iff.1 hr5).1⟩
        obtain ⟨sx, sy, sA, sT, sU, sV, sB⟩ := s
        simp only [dk.sets]
        clear hS hd5 hb5 hr5
        go_wp2
        exact bodyPost_ret (v := .tuple #[.agg #[.string ⟨#[115]⟩, .int .i64 lo, .int .i64 nx, .slice ga es.length cg, .slice ha ms.length ch], .int .i64 tt, .string sT]) (by simp [results, Try.results8, go_sem, q0, q1, q2, q3, q4]) rfl ⟨⟨lo, nx, es, ms, ga, cg, ha, ch, tt, sT, rfl, HSM.out, HD5.out.1, HST⟩, HD5.out.2⟩
set_option maxRecDepth 100000 in
set_option maxHeartbeats 2000000 in
theorem draw_Seek (a : Option Addr) (len cap : Nat) (w : World) (hlen : len ≤ 1048576) (hc : dw.Code w w.heap.size a len) :
    Calls Try.prog 11 #[.slice a len cap] w fun e w' => (∃ (lo nx : Int) (es : List flY.En) (ms : List Ex) (ga : Option Addr) (cg : Nat) (ha : Option Addr) (ch : Nat) (t : Int), e = .returned (.tuple #[.agg #[.string ⟨#[115]⟩, .int .i64 lo, .int .i64 nx, .slice ga es.length cg, .slice ha ms.length ch], .int .i64 t]) ∧ Sm 500 nx es ms ∧ Dr w.heap.size w' es ms ga cg ha ch) ∧ Below w.heap.size w w' ∧ w.heap.size < w'.heap.size := by
  have h1 := draw_new a len cap _ hlen (code_at hc)
  have HR0 : Hid ((w.alloc (.cells #[.string ⟨#[]⟩, .int .i64 0, .int .i64 0, .slice none 0 0, .slice none 0 0] 27)).heap[w.heap.size]? = some (.cells #[.string ⟨#[]⟩, .int .i64 0, .int .i64 0, .slice none 0 0, .slice none 0 0] 27 (0, 0))) := bnew w _ _
  have HB0 : Hid (Below w.heap.size w (w.alloc (.cells #[.string ⟨#[]⟩, .int .i64 0, .int .i64 0, .slice none 0 0, .slice none 0 0] 27))) := (Below.refl _ _).alloc (Nat.le_refl _) _
  clear hc
  go_enter Try.func11, Try.ntmps11
  go_wp2_with (go_at_call 18; fail)
  refine h1.mono ?_
  rintro e w1 ⟨rfl, hc1, hb1⟩
  rw [World.size_alloc] at hc1 hb1
  have hR1 := bstay HR0.out hb1 (by omega)
  have hB1 := HB0.out.trans (hb1.mono (by omega))
  have h2 := draw_stream (w.heap.size + 1) a len cap w1 hc1
  have hlt1 := hc1.lt
  have HR1 : Hid (w1.heap[w.heap.size]? = some (.cells #[.string ⟨#[]⟩, .int .i64 0, .int .i64 0, .slice none 0 0, .slice none 0 0] 27 (0, 0))) := hR1
  have HB1 : Hid (Below w.heap.size w w1) := hB1
  clear h1 hc1 hb1 hR1 hB1 HR0 HB0
  go_wp2_with (go_at_call 19; fail)
  refine h2.mono ?_
  rintro e w2 ⟨⟨lo, nx, es, ms, ga, cg, ha, ch, rfl, hsm, hdr⟩, hc2, hb2⟩
  have HD2 : Hid (Dz a len cap w es ms ga cg ha ch w2) := ⟨st_block HR1.out hb2 (by omega), hc2, HB1.out.trans (hb2.below (by omega) (by omega)), hdr.low (by omega)⟩
  have HSM : Hid (Sm 500 nx es ms) := hsm
  have hsz2 := hb2.size
  clear h2 hsm hdr hc2 hb2 HR1 HB1
  have HN2 : Hid ((w2.alloc (.cells #[.string ⟨#[115]⟩, .int .i64 lo, .int .i64 nx, .slice ga es.length cg, .slice ha ms.length ch] 27)).heap[w2.heap.size]? = some (.cells #[.string ⟨#[115]⟩, .int .i64 lo, .int .i64 nx, .slice ga es.length cg, .slice ha ms.length ch] 27 (0, 0))) := bnew w2 _ _
  have HD3 : Hid (Dz a len cap w es ms ga cg ha ch (w2.alloc (.cells #[.string ⟨#[115]⟩, .int .i64 lo, .int .i64 nx, .slice ga es.length cg, .slice ha ms.length ch] 27))) := HD2.out.step ((Below.refl _ _).alloc (Nat.le_refl _) _)
  have hne2 : w2.heap.size ≠ w.heap.size + 1 := by omega
  go_wp2
  refine cht.region (σ := G) (ws := (fun s : G => [(10, .agg #[.string ⟨#[115]⟩, .int .i64 lo, .int .i64 nx, .slice ga es.length cg, .slice ha ms.length ch]), (11, .pointer (some ⟨w.heap.size + 1, 0, none⟩)), (12, .int .i64 s.x), (3, .int .i64 s.x)])) (js := [2, 3]) (S := (fun g k W => (k ≤ 1 → Dz a len cap w es ms ga cg ha ch W ∧ W.heap[w2.heap.size]? = some (.cells #[.string ⟨#[115]⟩, .int .i64 lo, .int .i64 nx, .slice ga es.length cg, .slice ha ms.length ch] 27 (0, 0))) ∧ (True) ∧ (k = 2 → Dr w.heap.size W es ms ga cg ha ch ∧ Below w.heap.size w W ∧ W.heap[w.heap.size]? = some (.cells #[.string ⟨#[115]⟩, .int .i64 lo, .int .i64 nx, .slice ga es.length cg, .slice ha ms.length ch] 27 (0, 0))))) [10, 11, 12, 3] ⟨0, 0, 0, ⟨#[]⟩, 0, undef, false⟩ (by kernel_rfl) (by kernel_rfl) (fun _ => rfl) (by kernel_rfl) (by decide) ⟨fun _ => ⟨HD3.out.step (Below.refl _ _).drew, bstay HN2.out (Below.refl _ _).drew (by have := (Array.getElem?_eq_some_iff.1 HN2.out).1; omega)⟩, trivial, fun h => (by omega)⟩ ?each ?fin
  case each =>
    refine ⟨cht.quiet 1 rfl (by decide) (.inr ⟨3, _, rfl, rfl, ⟨0, .data⟩, by simp, rfl, rfl⟩) (by simp) (fun s => .agg #[.string ⟨#[115]⟩, .int .i64 lo, .int .i64 nx, .slice ga es.length cg, .slice ha ms.length ch]) (by rintro s _ ⟨⟩; exact dk.sets_on _ (by simp) _ rfl) (fun s k' W hk' hS => by obtain ⟨hZ, hN⟩ := hS.1 hk'; have c0 : W.cell? ⟨w2.heap.size, 0, none⟩ = some (.string ⟨#[115]⟩) := bcell hN rfl; have c1 : W.cell? ⟨w2.heap.size, 1, none⟩ = some (.int .i64 lo) := bcell hN rfl; have c2 : W.cell? ⟨w2.heap.size, 2, none⟩ = some (.int .i64 nx) := bcell hN rfl; have c3 : W.cell? ⟨w2.heap.size, 3, none⟩ = some (.slice ga es.length cg) := bcell hN rfl; have c4 : W.cell? ⟨w2.heap.size, 4, none⟩ = some (.slice ha ms.length ch) := bcell hN rfl; simp [execOp, go_sem, Act.eval, dk.sets_get, List.lookup, c0, c1, c2, c3, c4]), ?_⟩
    refine ⟨cht.quiet 2 rfl (by decide) (.inl rfl) (by simp) (fun s => .pointer (some ⟨w.heap.size + 1, 0, none⟩)) (by rintro s _ ⟨⟩; exact dk.sets_on _ (by simp) _ rfl) (fun s k' W hk' hS => by simp [execOp, go_sem, Act.eval, dk.sets_get, List.lookup]), ?_⟩
    refine ⟨chd.call 0 [2, 3, 4] [12, 3] (by kernel_rfl) (by kernel_rfl) rfl (by decide) rfl (.inl rfl) (by simp) 20 (fun s => #[.pointer (some ⟨w.heap.size + 1, 0, none⟩), .int .i64 100]) (fun s W hS => by exact ⟨by simp [go_sem, Act.eval, dk.sets_get, List.lookup], (draw_below (w.heap.size + 1) a len cap 100 W (by omega) (hS.1 (by omega)).1.cur).mono fun e w9 hh => by obtain ⟨⟨z9, hz9, rfl⟩, k1, k2⟩ := hh; exact ⟨{ s with x := z9 }, _, rfl, (by simp [chd.But]), (by rintro _ ⟨⟩; exact dk.sets_on _ (by simp) _ rfl), fun h => ⟨(hS.1 (by omega)).1.draw k1 k2, st_block (hS.1 (by omega)).2 k2 (by omega)⟩, trivial, fun h => (by omega)⟩⟩), ?_⟩
    refine ⟨cht.sto 1 rfl (by decide) rfl (.inr ⟨⟨2, .chain⟩, by simp, rfl, rfl⟩) (by simp) rfl (fun s W hS => by obtain ⟨hZ, hN⟩ := hS.1 (by omega); have q0 : W.cell? ⟨w.heap.size, 0, none⟩ = some (.string ⟨#[]⟩) := bcell hZ.rb rfl; have q1 : W.cell? ⟨w.heap.size, 1, none⟩ = some (.int .i64 0) := bcell hZ.rb rfl; have q2 : W.cell? ⟨w.heap.size, 2, none⟩ = some (.int .i64 0) := bcell hZ.rb rfl; have q3 : W.cell? ⟨w.heap.size, 3, none⟩ = some (.slice none 0 0) := bcell hZ.rb rfl; have q4 : W.cell? ⟨w.heap.size, 4, none⟩ = some (.slice none 0 0) := bcell hZ.rb rfl; have r0 := bfree hZ.rb 0; have r1 := bfree hZ.rb 1; have r2 := bfree hZ.rb 2; have r3 := bfree hZ.rb 3; have r4 := bfree hZ.rb 4; exact ⟨res5 W w.heap.size (.string ⟨#[115]⟩) (.int .i64 lo) (.int .i64 nx) (.slice ga es.length cg) (.slice ha ms.length ch), by simp [execOp, go_sem, Act.eval, dk.sets_get, List.lookup, q0, q1, q2, q3, q4, r0, r1, r2, r3, r4, res5], fun h => (by omega), trivial, fun _ => ⟨(hZ.done _ _ _ _ _).1, (hZ.done _ _ _ _ _).2, res5_at hZ.rb ..⟩⟩), ?_⟩
    exact ⟨cht.quiet 2 rfl (by decide) (.inl rfl) (by simp) (fun s => .int .i64 s.x) (by rintro s _ ⟨⟩; exact dk.sets_on _ (by simp) _ rfl) (fun s k' W hk' hS => by simp [execOp, go_sem, Act.eval, dk.sets_get, List.lookup]), trivial⟩
  case fin =>
    intro s x5 hS
    obtain ⟨hd5, hb5, hr5⟩ := hS.2.2 rfl
    have q0 : x5.cell? ⟨w.heap.size, 0, none⟩ = some (.string ⟨#[115]⟩) := bcell hr5 rfl
    have q1 : x5.cell? ⟨w.heap.size, 1, none⟩ = some (.int .i64 lo) := bcell hr5 rfl
    have q2 : x5.cell? ⟨w.heap.size, 2, none⟩ = some (.int .i64 nx) := bcell hr5 rfl
    have q3 : x5.cell? ⟨w.heap.size, 3, none⟩ = some (.slice ga es.length cg) := bcell hr5 rfl
    have q4 : x5.cell? ⟨w.heap.size, 4, none⟩ = some (.slice ha ms.length ch) := bcell hr5 rfl
    have HD5 : Hid (Dr w.heap.size x5 es ms ga cg ha ch ∧ Below w.heap.size w x5 ∧ w.heap.size < x5.heap.size) := ⟨hd5, hb5, (Array.getElem?_eq_some_iff.1 hr5).1⟩
    obtain ⟨sx, sy, sA, sT, sU, sV, sB⟩ := s
    simp only [dk.sets]
    clear hS hd5 hb5 hr5
    go_wp2
    exact bodyPost_ret (v := .tuple #[.agg #[.string ⟨#[115]⟩, .int .i64 lo, .int .i64 nx, .slice ga es.length cg, .slice ha ms.length ch], .int .i64 sx]) (by simp [results, Try.results11, go_sem, q0, q1, q2, q3, q4]) rfl ⟨⟨lo, nx, es, ms, ga, cg, ha, ch, sx, rfl, HSM.out, HD5.out.1⟩, HD5.out.2⟩
end Go.Proofs.Ytlfhfcgcfggjcaa.dss
