/- FnMarks: at every code the mark that is set is the reader's from then on and no other one is changed, what is read is one behind the other from the offset on, each answer is that of the specification, and a key's part is one of those there are; for every input, where the table sumTable holds what the program's own text lays in it (the card ties it). -/
import Derived.Test.YtlfhfcgcfggjcaaDoorMw10
import Derived.Test.YtlfhfcgcfggjcaaDoorMw07
import Derived.Test.YtlfhfcgcfggjcaaDoorQuietIn
import Derived.Test.YtlfhfcgcfggjcaaDoorMw09
import Derived.Test.YtlfhfcgcfggjcaaDoorMw02
import Derived.Test.YtlfhfcgcfggjcaaDoorCards
import Derived.Test.YtlfhfcgcfggjcaaDoorTie
import Derived.WalkKit
import Derived.ProofKit
import Derived.OpenShut
import Derived.ShutString
import Derived.Below
import Derived.OpenVars
import Derived.Deep.DeepHandedRow
import Derived.Lib.LaidTab
import Derived.Stop.LaidErr

/- The specification's draws of FnMarks: a stream and what is asked of it. -/
namespace Go.Proofs.YtlfhfcgcfggjcaaDoor.dmk
open Go.ChangeShapes Go.WideShapes Go.ChangeAt Go.RowKit Go.Proofs.YtlfhfcgcfggjcaaDoor.fl Go.Proofs.YtlfhfcgcfggjcaaDoor.dw Go.Proofs.YtlfhfcgcfggjcaaDoor.rr Go.Proofs.YtlfhfcgcfggjcaaDoor.st Go.Proofs.YtlfhfcgcfggjcaaDoor.scp Go.Proofs.YtlfhfcgcfggjcaaDoor.spw Go.Proofs.YtlfhfcgcfggjcaaDoor.dsl Go.Proofs.YtlfhfcgcfggjcaaDoor.dst
set_option linter.unusedVariables false

def keysR : List ByteArray := [⟨#[114]⟩, ⟨#[116]⟩, ⟨#[117]⟩, ⟨#[118]⟩, ⟨#[65]⟩]
theorem keysR_in : ∀ z ∈ keysR, z.size ≤ 4 := by decide
def keysM : List ByteArray := [⟨#[114]⟩, ⟨#[116]⟩, ⟨#[117]⟩, ⟨#[110, 111, 110, 101]⟩]
theorem keysM_in : ∀ z ∈ keysM, z.size ≤ 4 := by decide
def intsR : List Int := [1, 2, 5, 1000, 0, -1]
def intsP : List Int := [1, 3, 7, 1000, 1001, 0]
theorem top_run (n : Int) (w : World) (h : 0 ≤ n) : Calls Tryd.prog 22 #[.int .i64 n] w fun e w' => e = .returned (.int .i64 n) ∧ w = w' := by
  have h1 : ¬ n < 0 := by omega
  go_enter Tryd.func22, Tryd.ntmps22
  go_wp2
  go_ret
  exact ⟨rfl, rfl⟩
theorem intsP_in : ∀ z ∈ intsP, z ≤ 1001 := by decide
theorem intsR_in : ∀ z ∈ intsR, z ≤ 1000 := by decide
/-- what stands on the way of a draw behind the stream's -/
structure Dz (a : Option Addr) (len cap : Nat) (w : World) (es : List flY.En) (ms : List Ex) (ga : Option Addr) (cg : Nat) (ha : Option Addr) (ch : Nat) (W : World) : Prop where
  rb : W.heap[w.heap.size]? = some (.cells #[.string ⟨#[]⟩, .int .i64 0, .int .i64 0, .slice none 0 0, .slice none 0 0] 27 (0, 0))
  cur : Cur W (w.heap.size + 1) a len cap
  bel : Below w.heap.size w W
  dr : Dr (w.heap.size + 2) W es ms ga cg ha ch
section
variable {a : Option Addr} {len cap : Nat} {w W W' : World} {lo nx : Int} {es : List flY.En} {ms : List Ex} {ga : Option Addr} {cg : Nat} {ha : Option Addr} {ch : Nat}
theorem Dz.draw (h : Dz a len cap w es ms ga cg ha ch W) (hc : Cur W' (w.heap.size + 1) a len cap) (hb : On (w.heap.size + 1) W W') : Dz a len cap w es ms ga cg ha ch W' :=
  ⟨st_block h.rb hb (by omega), hc, h.bel.trans (hb.below (by omega) (by have := (Array.getElem?_eq_some_iff.1 h.rb).1; omega)), h.dr.on hb (by omega)⟩
theorem Dz.step (h : Dz a len cap w es ms ga cg ha ch W) (hb : Below W.heap.size W W') : Dz a len cap w es ms ga cg ha ch W' :=
  ⟨bstay h.rb hb (Array.getElem?_eq_some_iff.1 h.rb).1, h.cur.below hb, h.bel.trans (hb.mono h.bel.size), h.dr.below hb⟩
theorem Dz.done (h : Dz a len cap w es ms ga cg ha ch W) (x0 x1 x2 x3 x4 : Value) : Dr w.heap.size (res5 W w.heap.size x0 x1 x2 x3 x4) es ms ga cg ha ch ∧ Below w.heap.size w (res5 W w.heap.size x0 x1 x2 x3 x4) :=
  ⟨Dr.low ⟨own_res5 h.dr.oe h.rb (by decide) .., own_res5 h.dr.om h.rb (by decide) ..⟩ (by omega), (((((h.bel.setCell (Nat.le_refl _) _).setCell (Nat.le_refl _) _).setCell (Nat.le_refl _) _).setCell (Nat.le_refl _) _).setCell (Nat.le_refl _) _)⟩
theorem code_at (hc : dw.Code w w.heap.size a len) : dw.Code (w.alloc (.cells #[.string ⟨#[]⟩, .int .i64 0, .int .i64 0, .slice none 0 0, .slice none 0 0] 27)) (w.alloc (.cells #[.string ⟨#[]⟩, .int .i64 0, .int .i64 0, .slice none 0 0, .slice none 0 0] 27)).heap.size a len := (hc.below ((Below.refl _ _).alloc (Nat.le_refl _) _) (Nat.le_refl _)).mono (by simp)
end
set_option maxRecDepth 100000 in
set_option maxHeartbeats 2000000 in
theorem draw_Marked (a : Option Addr) (len cap : Nat) (w : World) (hlen : len ≤ 1048576) (hc : dw.Code w w.heap.size a len) :
    Calls Tryd.prog 11 #[.slice a len cap] w fun e w' => (∃ (lo nx : Int) (es : List flY.En) (ms : List Ex) (ga : Option Addr) (cg : Nat) (ha : Option Addr) (ch : Nat) (r : ByteArray), e = .returned (.tuple #[.agg #[.string ⟨#[115]⟩, .int .i64 lo, .int .i64 nx, .slice ga es.length cg, .slice ha ms.length ch], .string r]) ∧ Sm 500 nx es ms ∧ Dr w.heap.size w' es ms ga cg ha ch ∧ r.size ≤ 4) ∧ Below w.heap.size w w' ∧ w.heap.size < w'.heap.size := by
  have h1 := draw_new a len cap _ hlen (code_at hc)
  have HR0 : Hid ((w.alloc (.cells #[.string ⟨#[]⟩, .int .i64 0, .int .i64 0, .slice none 0 0, .slice none 0 0] 27)).heap[w.heap.size]? = some (.cells #[.string ⟨#[]⟩, .int .i64 0, .int .i64 0, .slice none 0 0, .slice none 0 0] 27 (0, 0))) := bnew w _ _
  have HB0 : Hid (Below w.heap.size w (w.alloc (.cells #[.string ⟨#[]⟩, .int .i64 0, .int .i64 0, .slice none 0 0, .slice none 0 0] 27))) := (Below.refl _ _).alloc (Nat.le_refl _) _
  clear hc
  go_enter Tryd.func11, Tryd.ntmps11
  go_wp2_with (go_at_call 18; fail)
  refine h1.mono ?_
  rintro e w1 ⟨rfl, hc1, hb1⟩
  rw [World.size_alloc] at hc1 hb1
  have hR1 := bstay HR0.out hb1 (by omega)
  have hB1 := HB0.out.trans (hb1.mono (by omega))
  have h2 := draw_stream (w.heap.size + 1) a len cap w1 hc1
  have hlt1 := hc1.lt
  have HR1 : Hid (w1.heap[w.heap.size]? = some (.cells #[.string ⟨#[]⟩, .int .i64 0, .int .i64 0, .slice none 0 0, .slice none 0 0] 27 (0, 0))) := hR1
  have HB1 : Hid (Below w.heap.size w w1) := hB1
  clear h1 hc1 hb1 hR1 hB1 HR0 HB0
  go_wp2_with (go_at_call 19; fail)
  refine h2.mono ?_
  rintro e w2 ⟨⟨lo, nx, es, ms, ga, cg, ha, ch, rfl, hsm, hdr⟩, hc2, hb2⟩
  have HD2 : Hid (Dz a len cap w es ms ga cg ha ch w2) := ⟨st_block HR1.out hb2 (by omega), hc2, HB1.out.trans (hb2.below (by omega) (by omega)), hdr.low (by omega)⟩
  have HSM : Hid (Sm 500 nx es ms) := hsm
  have hsz2 := hb2.size
  clear h2 hsm hdr hc2 hb2 HR1 HB1
  have HN2 : Hid ((w2.alloc (.cells #[.string ⟨#[115]⟩, .int .i64 lo, .int .i64 nx, .slice ga es.length cg, .slice ha ms.length ch] 27)).heap[w2.heap.size]? = some (.cells #[.string ⟨#[115]⟩, .int .i64 lo, .int .i64 nx, .slice ga es.length cg, .slice ha ms.length ch] 27 (0, 0))) := bnew w2 _ _
  have HD3 : Hid (Dz a len cap w es ms ga cg ha ch (w2.alloc (.cells #[.string ⟨#[115]⟩, .int .i64 lo, .int .i64 nx, .slice ga es.length cg, .slice ha ms.length ch] 27))) := HD2.out.step ((Below.refl _ _).alloc (Nat.le_refl _) _)
  have hne2 : w2.heap.size ≠ w.heap.size + 1 := by omega
  go_wp2
  refine cht.region (σ := G) (ws := (fun s : G => [(10, .agg #[.string ⟨#[115]⟩, .int .i64 lo, .int .i64 nx, .slice ga es.length cg, .slice ha ms.length ch]), (11, .pointer (some ⟨w.heap.size + 1, 0, none⟩)), (12, .slice (some ⟨s.a, 0, none⟩) 4 4), (13, .string s.t), (3, .string s.t)])) (js := [2, 3, 4]) (S := (fun g k W => (k ≤ 2 → Dz a len cap w es ms ga cg ha ch W ∧ W.heap[w2.heap.size]? = some (.cells #[.string ⟨#[115]⟩, .int .i64 lo, .int .i64 nx, .slice ga es.length cg, .slice ha ms.length ch] 27 (0, 0))) ∧ ((k = 1 → w.heap.size + 1 ≠ g.a ∧ ∀ i, i < 4 → ∃ z ∈ keysM, W.cell? ⟨g.a, i, none⟩ = some (.string z)) ∧ g.t.size ≤ 4) ∧ (k = 3 → Dr w.heap.size W es ms ga cg ha ch ∧ Below w.heap.size w W ∧ W.heap[w.heap.size]? = some (.cells #[.string ⟨#[115]⟩, .int .i64 lo, .int .i64 nx, .slice ga es.length cg, .slice ha ms.length ch] 27 (0, 0))))) [10, 11, 12, 13, 3] ⟨0, 0, 0, ⟨#[]⟩, 0, undef, false⟩ (by kernel_rfl) (by kernel_rfl) (fun _ => rfl) (by kernel_rfl) (by decide) ⟨fun _ => ⟨HD3.out.step (Below.refl _ _).drew, bstay HN2.out (Below.refl _ _).drew (by have := (Array.getElem?_eq_some_iff.1 HN2.out).1; omega)⟩, ⟨fun h => (by omega), by decide⟩, fun h => (by omega)⟩ ?each ?fin
  case each =>
    refine ⟨cht.quiet 2 rfl (by decide) (.inr ⟨4, _, rfl, rfl, ⟨0, .data⟩, by simp, rfl, rfl⟩) (by simp) (fun s => .agg #[.string ⟨#[115]⟩, .int .i64 lo, .int .i64 nx, .slice ga es.length cg, .slice ha ms.length ch]) (by rintro s _ ⟨⟩; exact dk.sets_on _ (by simp) _ rfl) (fun s k' W hk' hS => by obtain ⟨hZ, hN⟩ := hS.1 hk'; have c0 : W.cell? ⟨w2.heap.size, 0, none⟩ = some (.string ⟨#[115]⟩) := bcell hN rfl; have c1 : W.cell? ⟨w2.heap.size, 1, none⟩ = some (.int .i64 lo) := bcell hN rfl; have c2 : W.cell? ⟨w2.heap.size, 2, none⟩ = some (.int .i64 nx) := bcell hN rfl; have c3 : W.cell? ⟨w2.heap.size, 3, none⟩ = some (.slice ga es.length cg) := bcell hN rfl; have c4 : W.cell? ⟨w2.heap.size, 4, none⟩ = some (.slice ha ms.length ch) := bcell hN rfl; simp [execOp, go_sem, Act.eval, dk.sets_get, List.lookup, c0, c1, c2, c3, c4]), ?_⟩
    refine ⟨cht.quiet 3 rfl (by decide) (.inl rfl) (by simp) (fun s => .pointer (some ⟨w.heap.size + 1, 0, none⟩)) (by rintro s _ ⟨⟩; exact dk.sets_on _ (by simp) _ rfl) (fun s k' W hk' hS => by simp [execOp, go_sem, Act.eval, dk.sets_get, List.lookup]), ?_⟩
    refine ⟨chd.eff 0 [2, 3, 4, 5] [12] (by kernel_rfl) (by kernel_rfl) rfl (by decide) rfl (.inl rfl) (by simp) (fun s W hS => by exact ⟨{ s with a := W.heap.size }, .slice (some ⟨W.heap.size, 0, none⟩) 4 4, W.alloc (.cells (keysM.map Value.string).toArray 9), (by simp [chd.But]), (by rintro _ ⟨⟩; exact dk.sets_on _ (by simp) _ rfl), (by simp [execOp, go_sem, Act.eval, dk.sets_get, List.lookup, keysM]), fun h => ⟨(hS.1 (by omega)).1.step ((Below.refl _ _).alloc (Nat.le_refl _) _), bold (hS.1 (by omega)).2 _⟩, ⟨fun _ => ⟨(by have := (hS.1 (by omega)).1.cur.lt; show w.heap.size + 1 ≠ W.heap.size; omega), at_texts W keysM _⟩, hS.2.1.2⟩, fun h => (by omega)⟩), ?_⟩
    refine ⟨chd.call 1 [3, 4, 5] [13, 3] (by kernel_rfl) (by kernel_rfl) rfl (by decide) rfl (.inr ⟨⟨2, .data⟩, by simp, rfl, rfl⟩) (by simp) 20 (fun s => #[.pointer (some ⟨w.heap.size + 1, 0, none⟩), .slice (some ⟨s.a, 0, none⟩) 4 4]) (fun s W hS => by exact ⟨by simp [go_sem, Act.eval, dk.sets_get, List.lookup], (draw_pick (w.heap.size + 1) a len cap s.a 4 keysM W (by omega) (Ne.symm (hS.2.1.1 rfl).1) (hS.2.1.1 rfl).2 (hS.1 (by omega)).1.cur).mono fun e w9 hh => by obtain ⟨⟨z9, hz9, rfl⟩, k1, k2⟩ := hh; exact ⟨{ s with t := z9 }, _, rfl, (by simp [chd.But]), (by rintro _ ⟨⟩; exact dk.sets_on _ (by simp) _ rfl), fun h => ⟨(hS.1 (by omega)).1.draw k1 k2, st_block (hS.1 (by omega)).2 k2 (by omega)⟩, ⟨fun h => (by omega), keysM_in z9 hz9⟩, fun h => (by omega)⟩⟩), ?_⟩
    refine ⟨cht.sto 2 rfl (by decide) rfl (.inr ⟨⟨3, .chain⟩, by simp, rfl, rfl⟩) (by simp) rfl (fun s W hS => by obtain ⟨hZ, hN⟩ := hS.1 (by omega); have q0 : W.cell? ⟨w.heap.size, 0, none⟩ = some (.string ⟨#[]⟩) := bcell hZ.rb rfl; have q1 : W.cell? ⟨w.heap.size, 1, none⟩ = some (.int .i64 0) := bcell hZ.rb rfl; have q2 : W.cell? ⟨w.heap.size, 2, none⟩ = some (.int .i64 0) := bcell hZ.rb rfl; have q3 : W.cell? ⟨w.heap.size, 3, none⟩ = some (.slice none 0 0) := bcell hZ.rb rfl; have q4 : W.cell? ⟨w.heap.size, 4, none⟩ = some (.slice none 0 0) := bcell hZ.rb rfl; have r0 := bfree hZ.rb 0; have r1 := bfree hZ.rb 1; have r2 := bfree hZ.rb 2; have r3 := bfree hZ.rb 3; have r4 := bfree hZ.rb 4; exact ⟨res5 W w.heap.size (.string ⟨#[115]⟩) (.int .i64 lo) (.int .i64 nx) (.slice ga es.length cg) (.slice ha ms.length ch), by simp [execOp, go_sem, Act.eval, dk.sets_get, List.lookup, q0, q1, q2, q3, q4, r0, r1, r2, r3, r4, res5], fun h => (by omega), ⟨fun h => (by omega), hS.2.1.2⟩, fun _ => ⟨(hZ.done _ _ _ _ _).1, (hZ.done _ _ _ _ _).2, res5_at hZ.rb ..⟩⟩), ?_⟩
    exact ⟨cht.quiet 3 rfl (by decide) (.inl rfl) (by simp) (fun s => .string s.t) (by rintro s _ ⟨⟩; exact dk.sets_on _ (by simp) _ rfl) (fun s k' W hk' hS => by simp [execOp, go_sem, Act.eval, dk.sets_get, List.lookup]), trivial⟩
  case fin =>
    intro s x5 hS
    have HST : s.t.size ≤ 4 := hS.2.1.2
    obtain ⟨hd5, hb5, hr5⟩ := hS.2.2 rfl
    have q0 : x5.cell? ⟨w.heap.size, 0, none⟩ = some (.string ⟨#[115]⟩) := bcell hr5 rfl
    have q1 : x5.cell? ⟨w.heap.size, 1, none⟩ = some (.int .i64 lo) := bcell hr5 rfl
    have q2 : x5.cell? ⟨w.heap.size, 2, none⟩ = some (.int .i64 nx) := bcell hr5 rfl
    have q3 : x5.cell? ⟨w.heap.size, 3, none⟩ = some (.slice ga es.length cg) := bcell hr5 rfl
    have q4 : x5.cell? ⟨w.heap.size, 4, none⟩ = some (.slice ha ms.length ch) := bcell hr5 rfl
    have HD5 : Hid (Dr w.heap.size x5 es ms ga cg ha ch ∧ Below w.heap.size w x5 ∧ w.heap.size < x5.heap.size) := ⟨hd5, hb5, (Array.getElem?_eq_some_iff.1 hr5).1⟩
    obtain ⟨sx, sy, sA, sT, sU, sV, sB⟩ := s
    simp only [dk.sets]
    clear hS hd5 hb5 hr5
    go_wp2
    exact bodyPost_ret (v := .tuple #[.agg #[.string ⟨#[115]⟩, .int .i64 lo, .int .i64 nx, .slice ga es.length cg, .slice ha ms.length ch], .string sT]) (by simp [results, Tryd.results11, go_sem, q0, q1, q2, q3, q4]) rfl ⟨⟨lo, nx, es, ms, ga, cg, ha, ch, sT, rfl, HSM.out, HD5.out.1, HST⟩, HD5.out.2⟩
set_option maxRecDepth 100000 in
set_option maxHeartbeats 2000000 in
theorem draw_Read (a : Option Addr) (len cap : Nat) (w : World) (hlen : len ≤ 1048576) (hc : dw.Code w w.heap.size a len) :
    Calls Tryd.prog 8 #[.slice a len cap] w fun e w' => (∃ (lo nx : Int) (es : List flY.En) (ms : List Ex) (ga : Option Addr) (cg : Nat) (ha : Option Addr) (ch : Nat) (o m : Int), e = .returned (.tuple #[.agg #[.string ⟨#[115]⟩, .int .i64 lo, .int .i64 nx, .slice ga es.length cg, .slice ha ms.length ch], .int .i64 o, .int .i64 m]) ∧ Sm 500 nx es ms ∧ Dr w.heap.size w' es ms ga cg ha ch ∧ -2 ≤ o ∧ m ≤ 1000) ∧ Below w.heap.size w w' ∧ w.heap.size < w'.heap.size := by
  have h1 := draw_new a len cap _ hlen (code_at hc)
  have HR0 : Hid ((w.alloc (.cells #[.string ⟨#[]⟩, .int .i64 0, .int .i64 0, .slice none 0 0, .slice none 0 0] 27)).heap[w.heap.size]? = some (.cells #[.string ⟨#[]⟩, .int .i64 0, .int .i64 0, .slice none 0 0, .slice none 0 0] 27 (0, 0))) := bnew w _ _
  have HB0 : Hid (Below w.heap.size w (w.alloc (.cells #[.string ⟨#[]⟩, .int .i64 0, .int .i64 0, .slice none 0 0, .slice none 0 0] 27))) := (Below.refl _ _).alloc (Nat.le_refl _) _
  clear hc
  go_enter Tryd.func8, Tryd.ntmps8
  go_wp2_with (go_at_call 18; fail)
  refine h1.mono ?_
  rintro e w1 ⟨rfl, hc1, hb1⟩
  rw [World.size_alloc] at hc1 hb1
  have hR1 := bstay HR0.out hb1 (by omega)
  have hB1 := HB0.out.trans (hb1.mono (by omega))
  have h2 := draw_stream (w.heap.size + 1) a len cap w1 hc1
  have hlt1 := hc1.lt
  have HR1 : Hid (w1.heap[w.heap.size]? = some (.cells #[.string ⟨#[]⟩, .int .i64 0, .int .i64 0, .slice none 0 0, .slice none 0 0] 27 (0, 0))) := hR1
  have HB1 : Hid (Below w.heap.size w w1) := hB1
  clear h1 hc1 hb1 hR1 hB1 HR0 HB0
  go_wp2_with (go_at_call 19; fail)
  refine h2.mono ?_
  rintro e w2 ⟨⟨lo, nx, es, ms, ga, cg, ha, ch, rfl, hsm, hdr⟩, hc2, hb2⟩
  have HD2 : Hid (Dz a len cap w es ms ga cg ha ch w2) := ⟨st_block HR1.out hb2 (by omega), hc2, HB1.out.trans (hb2.below (by omega) (by omega)), hdr.low (by omega)⟩
  have HSM : Hid (Sm 500 nx es ms) := hsm
  have hsz2 := hb2.size
  clear h2 hsm hdr hc2 hb2 HR1 HB1
  have HN2 : Hid ((w2.alloc (.cells #[.string ⟨#[115]⟩, .int .i64 lo, .int .i64 nx, .slice ga es.length cg, .slice ha ms.length ch] 27)).heap[w2.heap.size]? = some (.cells #[.string ⟨#[115]⟩, .int .i64 lo, .int .i64 nx, .slice ga es.length cg, .slice ha ms.length ch] 27 (0, 0))) := bnew w2 _ _
  have HD3 : Hid (Dz a len cap w es ms ga cg ha ch (w2.alloc (.cells #[.string ⟨#[115]⟩, .int .i64 lo, .int .i64 nx, .slice ga es.length cg, .slice ha ms.length ch] 27))) := HD2.out.step ((Below.refl _ _).alloc (Nat.le_refl _) _)
  have hne2 : w2.heap.size ≠ w.heap.size + 1 := by omega
  have hn0 := HSM.out.n0
  have hn1 := HSM.out.n1
  have hwr : IntKind.i64.wrap (nx + 4) = nx + 4 := by rw [IntKind.wrap_i64]; omega
  have HDB : Hid (∀ W, Cur W (w.heap.size + 1) a len cap → Calls Tryd.prog 21 #[.pointer (some ⟨w.heap.size + 1, 0, none⟩), .int .i64 (nx + 4)] W fun e w' => (∃ x : Nat, x < nx.toNat + 4 ∧ e = .returned (.int .i64 x)) ∧ Cur w' (w.heap.size + 1) a len cap ∧ On (w.heap.size + 1) W w') := fun W h => by
    have h9 := draw_below (w.heap.size + 1) a len cap (nx.toNat + 4) W (by omega) h
    rwa [show ((nx.toNat + 4 : Nat) : Int) = nx + 4 by omega] at h9
  go_wp2
  refine chf.region (σ := G) (ws := (fun s : G => [(11, .agg #[.string ⟨#[115]⟩, .int .i64 lo, .int .i64 nx, .slice ga es.length cg, .slice ha ms.length ch]), (12, .pointer (some ⟨w.heap.size + 1, 0, none⟩)), (13, .pointer (some ⟨w2.heap.size, 2, none⟩)), (14, .int .i64 nx), (15, .int .i64 (nx + 4)), (16, .int .i64 s.x), (17, .int .i64 ((s.x : Int) - 2)), (18, .pointer (some ⟨w.heap.size + 1, 0, none⟩)), (19, .slice (some ⟨s.a, 0, none⟩) 6 6), (20, .int .i64 s.u), (3, .int .i64 ((s.x : Int) - 2)), (4, .int .i64 s.u)])) (js := [4, 5, 9, 10]) (j0 := 8) (S := (fun g k b W => (k ≤ 3 → Dz a len cap w es ms ga cg ha ch W ∧ W.heap[w2.heap.size]? = some (.cells #[.string ⟨#[115]⟩, .int .i64 lo, .int .i64 nx, .slice ga es.length cg, .slice ha ms.length ch] 27 (0, 0))) ∧ ((k ≤ 2 → b = true → w.heap.size + 1 ≠ g.a ∧ ∀ i, i < 6 → ∃ z ∈ intsR, W.cell? ⟨g.a, i, none⟩ = some (.int .i64 z)) ∧ g.x < 600 ∧ g.u ≤ 1000) ∧ (k = 4 → Dr w.heap.size W es ms ga cg ha ch ∧ Below w.heap.size w W ∧ W.heap[w.heap.size]? = some (.cells #[.string ⟨#[115]⟩, .int .i64 lo, .int .i64 nx, .slice ga es.length cg, .slice ha ms.length ch] 27 (0, 0))))) [11, 12, 13, 14, 15, 16, 17, 18, 19, 20, 3, 4] ⟨0, 0, 0, ⟨#[]⟩, 0, undef, false⟩ (by kernel_rfl) (by kernel_rfl) (fun _ => rfl) (by kernel_rfl) (by decide) (by decide) ⟨fun _ => ⟨HD3.out.step (Below.refl _ _).drew, bstay HN2.out (Below.refl _ _).drew (by have := (Array.getElem?_eq_some_iff.1 HN2.out).1; omega)⟩, ⟨fun _ h => (by cases h), by decide, by decide⟩, fun h => (by omega)⟩ ?each ?fin
  case each =>
    refine ⟨chf.quiet 3 rfl (by decide) (by decide) (.inr ⟨10, _, rfl, rfl, ⟨0, .data⟩, by simp, rfl, rfl⟩) (by simp) (fun s => .agg #[.string ⟨#[115]⟩, .int .i64 lo, .int .i64 nx, .slice ga es.length cg, .slice ha ms.length ch]) (by rintro s _ ⟨⟩; exact dk.sets_on _ (by simp) _ rfl) (fun s k' b W hk' hS => by obtain ⟨hZ, hN⟩ := hS.1 hk'; have c0 : W.cell? ⟨w2.heap.size, 0, none⟩ = some (.string ⟨#[115]⟩) := bcell hN rfl; have c1 : W.cell? ⟨w2.heap.size, 1, none⟩ = some (.int .i64 lo) := bcell hN rfl; have c2 : W.cell? ⟨w2.heap.size, 2, none⟩ = some (.int .i64 nx) := bcell hN rfl; have c3 : W.cell? ⟨w2.heap.size, 3, none⟩ = some (.slice ga es.length cg) := bcell hN rfl; have c4 : W.cell? ⟨w2.heap.size, 4, none⟩ = some (.slice ha ms.length ch) := bcell hN rfl; simp [execOp, go_sem, Act.eval, dk.sets_get, List.lookup, c0, c1, c2, c3, c4]), ?_⟩
    refine ⟨chf.quiet 4 rfl (by decide) (by decide) (.inl rfl) (by simp) (fun s => .pointer (some ⟨w.heap.size + 1, 0, none⟩)) (by rintro s _ ⟨⟩; exact dk.sets_on _ (by simp) _ rfl) (fun s k' b W hk' hS => by simp [execOp, go_sem, Act.eval, dk.sets_get, List.lookup]), ?_⟩
    refine ⟨chf.quiet 4 rfl (by decide) (by decide) (.inl rfl) (by simp) (fun s => .pointer (some ⟨w2.heap.size, 2, none⟩)) (by rintro s _ ⟨⟩; exact dk.sets_on _ (by simp) _ rfl) (fun s k' b W hk' hS => by simp [execOp, go_sem, Act.eval, dk.sets_get, List.lookup]), ?_⟩
    refine ⟨chf.quiet 0 rfl (by decide) (by decide) (.inr ⟨4, _, rfl, rfl, ⟨3, .data⟩, by simp, rfl, rfl⟩) (by simp) (fun s => .int .i64 nx) (by rintro s _ ⟨⟩; exact dk.sets_on _ (by simp) _ rfl) (fun s k' b W hk' hS => by obtain ⟨hZ, hN⟩ := hS.1 (by omega); have c2 : W.cell? ⟨w2.heap.size, 2, none⟩ = some (.int .i64 nx) := bcell hN rfl; simp [execOp, go_sem, Act.eval, dk.sets_get, List.lookup, c2]), ?_⟩
    refine ⟨chf.eff 0 [4, 5, 6, 9, 10, 11, 12] [15] (by kernel_rfl) (by kernel_rfl) rfl (by decide) (by decide) rfl (.inl rfl) (by simp) (fun s b W hS => by exact ⟨s, .int .i64 (nx + 4), W, (by simp [chd.But]), (by rintro _ ⟨⟩; exact dk.sets_on _ (by simp) _ rfl), (by simp [execOp, go_sem, Act.eval, dk.sets_get, List.lookup, hwr]), fun h => hS.1 (by omega), ⟨fun h hb9 => hS.2.1.1 (by omega) hb9, hS.2.1.2⟩, fun h => (by omega)⟩), ?_⟩
    refine ⟨chf.call 1 [5, 6, 9, 10, 11, 12] [16, 17, 3] (by kernel_rfl) (by kernel_rfl) rfl (by decide) (by decide) rfl (.inr ⟨⟨4, .data⟩, by simp, rfl, rfl⟩) (by simp) 21 (fun s => #[.pointer (some ⟨w.heap.size + 1, 0, none⟩), .int .i64 (nx + 4)]) (fun s b W hb hS => by exact ⟨by simp [go_sem, Act.eval, dk.sets_get, List.lookup], (HDB.out W (hS.1 (by omega)).1.cur).mono fun e w9 hh => by obtain ⟨⟨z9, hz9, rfl⟩, k1, k2⟩ := hh; exact ⟨{ s with x := z9 }, _, rfl, (by simp [chd.But]), (by rintro _ ⟨⟩; exact dk.sets_on _ (by simp) _ rfl), fun h => ⟨(hS.1 (by omega)).1.draw k1 k2, st_block (hS.1 (by omega)).2 k2 (by omega)⟩, ⟨fun h hb9 => ⟨(hS.2.1.1 (by omega) hb9).1, fun i hi => by obtain ⟨z, hz, hc⟩ := (hS.2.1.1 (by omega) hb9).2 i hi; exact ⟨z, hz, k2.cell hc (by have := (hS.2.1.1 (by omega) hb9).1; simpa using Ne.symm this)⟩⟩, (by show z9 < 600; omega), hS.2.1.2.2⟩, fun h => (by omega)⟩⟩), ?_⟩
    refine ⟨chf.quiet 4 rfl (by decide) (by decide) (.inl rfl) (by simp) (fun s => .int .i64 ((s.x : Int) - 2)) (by rintro s _ ⟨⟩; exact dk.sets_on _ (by simp) _ rfl) (fun s k' b W hk' hS => by have h9 := hS.2.1.2.1; have hwx : IntKind.i64.wrap ((s.x : Int) - 2) = (s.x : Int) - 2 := (by rw [IntKind.wrap_i64]; omega); simp [execOp, go_sem, Act.eval, dk.sets_get, List.lookup, hwx]), ?_⟩
    refine ⟨chf.quiet 4 rfl (by decide) (by decide) (.inl rfl) (by simp) (fun s => .pointer (some ⟨w.heap.size + 1, 0, none⟩)) (by rintro s _ ⟨⟩; exact dk.sets_on _ (by simp) _ rfl) (fun s k' b W hk' hS => by simp [execOp, go_sem, Act.eval, dk.sets_get, List.lookup]), ?_⟩
    refine ⟨chf.free 2 rfl (by decide) rfl (.inr ⟨9, _, rfl, rfl, ⟨8, .data⟩, by simp, rfl, rfl⟩) [8, 9, 10, 11, 12] [19] (by kernel_rfl) (by kernel_rfl) (by simp) (fun s k' W hk' hS => by exact ⟨{ s with a := W.heap.size }, .slice (some ⟨W.heap.size, 0, none⟩) 6 6, W.alloc (.cells (intsR.map (Value.int .i64)).toArray 3), (by simp [chd.But]), (by rintro _ ⟨⟩; exact dk.sets_on _ (by simp) _ rfl), (by simp [execOp, go_sem, Act.eval, dk.sets_get, List.lookup, intsR]), fun h => ⟨(hS.1 (by omega)).1.step ((Below.refl _ _).alloc (Nat.le_refl _) _), bold (hS.1 (by omega)).2 _⟩, ⟨fun _ _ => ⟨(by have := (hS.1 (by omega)).1.cur.lt; show w.heap.size + 1 ≠ W.heap.size; omega), at_list W intsR _⟩, hS.2.1.2⟩, fun h => (by omega)⟩), ?_⟩
    refine ⟨chf.call 2 [9, 10, 11, 12] [20, 4] (by kernel_rfl) (by kernel_rfl) rfl (by decide) (by decide) rfl (.inr ⟨⟨5, .chain⟩, by simp, rfl, rfl⟩) (by simp) 31 (fun s => #[.pointer (some ⟨w.heap.size + 1, 0, none⟩), .slice (some ⟨s.a, 0, none⟩) 6 6]) (fun s b W hb hS => by have hb' : b = true := hb ⟨⟨8, .data⟩, by simp, rfl, rfl⟩; exact ⟨by simp [go_sem, Act.eval, dk.sets_get, List.lookup], (draw_pick_int (w.heap.size + 1) a len cap s.a 6 intsR W (by omega) (Ne.symm (hS.2.1.1 (by omega) hb').1) (hS.2.1.1 (by omega) hb').2 (hS.1 (by omega)).1.cur).mono fun e w9 hh => by obtain ⟨⟨z9, hz9, rfl⟩, k1, k2⟩ := hh; exact ⟨{ s with u := z9 }, _, rfl, (by simp [chd.But]), (by rintro _ ⟨⟩; exact dk.sets_on _ (by simp) _ rfl), fun h => ⟨(hS.1 (by omega)).1.draw k1 k2, st_block (hS.1 (by omega)).2 k2 (by omega)⟩, ⟨fun h => (by omega), hS.2.1.2.1, intsR_in z9 hz9⟩, fun h => (by omega)⟩⟩), ?_⟩
    refine ⟨chf.sto 3 rfl (by decide) (by decide) rfl (.inr ⟨⟨9, .chain⟩, by simp, rfl, rfl⟩) (by simp) rfl (fun s b W hS => by obtain ⟨hZ, hN⟩ := hS.1 (by omega); have q0 : W.cell? ⟨w.heap.size, 0, none⟩ = some (.string ⟨#[]⟩) := bcell hZ.rb rfl; have q1 : W.cell? ⟨w.heap.size, 1, none⟩ = some (.int .i64 0) := bcell hZ.rb rfl; have q2 : W.cell? ⟨w.heap.size, 2, none⟩ = some (.int .i64 0) := bcell hZ.rb rfl; have q3 : W.cell? ⟨w.heap.size, 3, none⟩ = some (.slice none 0 0) := bcell hZ.rb rfl; have q4 : W.cell? ⟨w.heap.size, 4, none⟩ = some (.slice none 0 0) := bcell hZ.rb rfl; have r0 := bfree hZ.rb 0; have r1 := bfree hZ.rb 1; have r2 := bfree hZ.rb 2; have r3 := bfree hZ.rb 3; have r4 := bfree hZ.rb 4; exact ⟨res5 W w.heap.size (.string ⟨#[115]⟩) (.int .i64 lo) (.int .i64 nx) (.slice ga es.length cg) (.slice ha ms.length ch), by simp [execOp, go_sem, Act.eval, dk.sets_get, List.lookup, q0, q1, q2, q3, q4, r0, r1, r2, r3, r4, res5], fun h => (by omega), ⟨fun h => (by omega), hS.2.1.2⟩, fun _ => ⟨(hZ.done _ _ _ _ _).1, (hZ.done _ _ _ _ _).2, res5_at hZ.rb ..⟩⟩), ?_⟩
    refine ⟨chf.quiet 4 rfl (by decide) (by decide) (.inl rfl) (by simp) (fun s => .int .i64 ((s.x : Int) - 2)) (by rintro s _ ⟨⟩; exact dk.sets_on _ (by simp) _ rfl) (fun s k' b W hk' hS => by simp [execOp, go_sem, Act.eval, dk.sets_get, List.lookup]), ?_⟩
    exact ⟨chf.quiet 4 rfl (by decide) (by decide) (.inl rfl) (by simp) (fun s => .int .i64 s.u) (by rintro s _ ⟨⟩; exact dk.sets_on _ (by simp) _ rfl) (fun s k' b W hk' hS => by simp [execOp, go_sem, Act.eval, dk.sets_get, List.lookup]), trivial⟩
  case fin =>
    intro s x5 hS
    have HSU : s.u ≤ 1000 := hS.2.1.2.2
    obtain ⟨hd5, hb5, hr5⟩ := hS.2.2 rfl
    have q0 : x5.cell? ⟨w.heap.size, 0, none⟩ = some (.string ⟨#[115]⟩) := bcell hr5 rfl
    have q1 : x5.cell? ⟨w.heap.size, 1, none⟩ = some (.int .i64 lo) := bcell hr5 rfl
    have q2 : x5.cell? ⟨w.heap.size, 2, none⟩ = some (.int .i64 nx) := bcell hr5 rfl
    have q3 : x5.cell? ⟨w.heap.size, 3, none⟩ = some (.slice ga es.length cg) := bcell hr5 rfl
    have q4 : x5.cell? ⟨w.heap.size, 4, none⟩ = some (.slice ha ms.length ch) := bcell hr5 rfl
    have HD5 : Hid (Dr w.heap.size x5 es ms ga cg ha ch ∧ Below w.heap.size w x5 ∧ w.heap.size < x5.heap.size) := ⟨hd5, hb5, (Array.getElem?_eq_some_iff.1 hr5).1⟩
    obtain ⟨sx, sy, sA, sT, sU, sV, sB⟩ := s
    simp only [dk.sets]
    clear hS hd5 hb5 hr5
    go_wp2
    exact bodyPost_ret (v := .tuple #[.agg #[.string ⟨#[115]⟩, .int .i64 lo, .int .i64 nx, .slice ga es.length cg, .slice ha ms.length ch], .int .i64 ((sx : Int) - 2), .int .i64 sU]) (by simp [results, Tryd.results8, go_sem, q0, q1, q2, q3, q4]) rfl ⟨⟨lo, nx, es, ms, ga, cg, ha, ch, (sx : Int) - 2, sU, rfl, HSM.out, HD5.out.1, by omega, HSU⟩, HD5.out.2⟩
set_option maxRecDepth 100000 in
set_option maxHeartbeats 2000000 in
theorem draw_Mark (a : Option Addr) (len cap : Nat) (w : World) (hlen : len ≤ 1048576) (hc : dw.Code w w.heap.size a len) :
    Calls Tryd.prog 5 #[.slice a len cap] w fun e w' => (∃ (lo nx : Int) (es : List flY.En) (ms : List Ex) (ga : Option Addr) (cg : Nat) (ha : Option Addr) (ch : Nat) (r : ByteArray) (o : Int), e = .returned (.tuple #[.agg #[.string ⟨#[115]⟩, .int .i64 lo, .int .i64 nx, .slice ga es.length cg, .slice ha ms.length ch], .string r, .int .i64 o]) ∧ Sm 500 nx es ms ∧ Dr w.heap.size w' es ms ga cg ha ch ∧ r.size ≤ 4 ∧ -1 ≤ o) ∧ Below w.heap.size w w' ∧ w.heap.size < w'.heap.size := by
  have h1 := draw_new a len cap _ hlen (code_at hc)
  have HR0 : Hid ((w.alloc (.cells #[.string ⟨#[]⟩, .int .i64 0, .int .i64 0, .slice none 0 0, .slice none 0 0] 27)).heap[w.heap.size]? = some (.cells #[.string ⟨#[]⟩, .int .i64 0, .int .i64 0, .slice none 0 0, .slice none 0 0] 27 (0, 0))) := bnew w _ _
  have HB0 : Hid (Below w.heap.size w (w.alloc (.cells #[.string ⟨#[]⟩, .int .i64 0, .int .i64 0, .slice none 0 0, .slice none 0 0] 27))) := (Below.refl _ _).alloc (Nat.le_refl _) _
  clear hc
  go_enter Tryd.func5, Tryd.ntmps5
  go_wp2_with (go_at_call 18; fail)
  refine h1.mono ?_
  rintro e w1 ⟨rfl, hc1, hb1⟩
  rw [World.size_alloc] at hc1 hb1
  have hR1 := bstay HR0.out hb1 (by omega)
  have hB1 := HB0.out.trans (hb1.mono (by omega))
  have h2 := draw_stream (w.heap.size + 1) a len cap w1 hc1
  have hlt1 := hc1.lt
  have HR1 : Hid (w1.heap[w.heap.size]? = some (.cells #[.string ⟨#[]⟩, .int .i64 0, .int .i64 0, .slice none 0 0, .slice none 0 0] 27 (0, 0))) := hR1
  have HB1 : Hid (Below w.heap.size w w1) := hB1
  clear h1 hc1 hb1 hR1 hB1 HR0 HB0
  go_wp2_with (go_at_call 19; fail)
  refine h2.mono ?_
  rintro e w2 ⟨⟨lo, nx, es, ms, ga, cg, ha, ch, rfl, hsm, hdr⟩, hc2, hb2⟩
  have HD2 : Hid (Dz a len cap w es ms ga cg ha ch w2) := ⟨st_block HR1.out hb2 (by omega), hc2, HB1.out.trans (hb2.below (by omega) (by omega)), hdr.low (by omega)⟩
  have HSM : Hid (Sm 500 nx es ms) := hsm
  have hsz2 := hb2.size
  clear h2 hsm hdr hc2 hb2 HR1 HB1
  have HN2 : Hid ((w2.alloc (.cells #[.string ⟨#[115]⟩, .int .i64 lo, .int .i64 nx, .slice ga es.length cg, .slice ha ms.length ch] 27)).heap[w2.heap.size]? = some (.cells #[.string ⟨#[115]⟩, .int .i64 lo, .int .i64 nx, .slice ga es.length cg, .slice ha ms.length ch] 27 (0, 0))) := bnew w2 _ _
  have HD3 : Hid (Dz a len cap w es ms ga cg ha ch (w2.alloc (.cells #[.string ⟨#[115]⟩, .int .i64 lo, .int .i64 nx, .slice ga es.length cg, .slice ha ms.length ch] 27))) := HD2.out.step ((Below.refl _ _).alloc (Nat.le_refl _) _)
  have hne2 : w2.heap.size ≠ w.heap.size + 1 := by omega
  have g1 := draw_pick (w.heap.size + 1) a len cap (w2.alloc (.cells #[.string ⟨#[115]⟩, .int .i64 lo, .int .i64 nx, .slice ga es.length cg, .slice ha ms.length ch] 27)).heap.size 5 keysR _ (by omega) (by rw [World.size_alloc]; omega) (at_texts (w2.alloc (.cells #[.string ⟨#[115]⟩, .int .i64 lo, .int .i64 nx, .slice ga es.length cg, .slice ha ms.length ch] 27)) keysR 9) (HD3.out.step ((Below.refl _ _).alloc (Nat.le_refl _) _)).cur
  have HD4 : Hid (Dz a len cap w es ms ga cg ha ch ((w2.alloc (.cells #[.string ⟨#[115]⟩, .int .i64 lo, .int .i64 nx, .slice ga es.length cg, .slice ha ms.length ch] 27)).alloc (.cells (keysR.map Value.string).toArray 9))) := HD3.out.step ((Below.refl _ _).alloc (Nat.le_refl _) _)
  have HN4 : Hid (((w2.alloc (.cells #[.string ⟨#[115]⟩, .int .i64 lo, .int .i64 nx, .slice ga es.length cg, .slice ha ms.length ch] 27)).alloc (.cells (keysR.map Value.string).toArray 9)).heap[w2.heap.size]? = some (.cells #[.string ⟨#[115]⟩, .int .i64 lo, .int .i64 nx, .slice ga es.length cg, .slice ha ms.length ch] 27 (0, 0))) := bold HN2.out _
  rw [World.size_alloc] at g1
  go_wp2_with (go_at_call 20; fail)
  refine g1.mono ?_
  rintro e w3 ⟨⟨rr, hrr, rfl⟩, hc3, hb3⟩
  have hr4 := keysR_in rr hrr
  have HD5 : Hid (Dz a len cap w es ms ga cg ha ch w3) := HD4.out.draw hc3 hb3
  have HN5 : Hid (w3.heap[w2.heap.size]? = some (.cells #[.string ⟨#[115]⟩, .int .i64 lo, .int .i64 nx, .slice ga es.length cg, .slice ha ms.length ch] 27 (0, 0))) := st_block HN4.out hb3 (by omega)
  have hsz3 : w2.heap.size < w3.heap.size := (Array.getElem?_eq_some_iff.1 HN5.out).1
  clear g1 hc3 hb3 HD4 HN4 HD3 HN2 hrr
  have hn0 := HSM.out.n0
  have hn1 := HSM.out.n1
  have hwr : IntKind.i64.wrap (nx + 3) = nx + 3 := by rw [IntKind.wrap_i64]; omega
  have HDB : Hid (∀ W, Cur W (w.heap.size + 1) a len cap → Calls Tryd.prog 21 #[.pointer (some ⟨w.heap.size + 1, 0, none⟩), .int .i64 (nx + 3)] W fun e w' => (∃ x : Nat, x < nx.toNat + 3 ∧ e = .returned (.int .i64 x)) ∧ Cur w' (w.heap.size + 1) a len cap ∧ On (w.heap.size + 1) W w') := fun W h => by
    have h9 := draw_below (w.heap.size + 1) a len cap (nx.toNat + 3) W (by omega) h
    rwa [show ((nx.toNat + 3 : Nat) : Int) = nx + 3 by omega] at h9
  go_wp2
  refine cht.region (σ := G) (ws := (fun s : G => [(15, .agg #[.string ⟨#[115]⟩, .int .i64 lo, .int .i64 nx, .slice ga es.length cg, .slice ha ms.length ch]), (16, .string rr), (17, .pointer (some ⟨w.heap.size + 1, 0, none⟩)), (18, .pointer (some ⟨w2.heap.size, 2, none⟩)), (19, .int .i64 nx), (20, .int .i64 nx), (21, .int .i64 (nx + 3)), (22, .int .i64 s.x), (23, .int .i64 ((s.x : Int) - 1)), (3, .string rr), (4, .int .i64 ((s.x : Int) - 1))])) (js := [5, 7, 9]) (S := (fun g k W => (k ≤ 2 → Dz a len cap w es ms ga cg ha ch W ∧ W.heap[w2.heap.size]? = some (.cells #[.string ⟨#[115]⟩, .int .i64 lo, .int .i64 nx, .slice ga es.length cg, .slice ha ms.length ch] 27 (0, 0))) ∧ (g.x < 600) ∧ (k = 3 → Dr w.heap.size W es ms ga cg ha ch ∧ Below w.heap.size w W ∧ W.heap[w.heap.size]? = some (.cells #[.string ⟨#[115]⟩, .int .i64 lo, .int .i64 nx, .slice ga es.length cg, .slice ha ms.length ch] 27 (0, 0))))) [15, 16, 17, 18, 19, 20, 21, 22, 23, 3, 4] ⟨0, 0, 0, ⟨#[]⟩, 0, undef, false⟩ (by kernel_rfl) (by kernel_rfl) (fun _ => rfl) (by kernel_rfl) (by decide) ⟨fun _ => ⟨HD5.out.step (Below.refl _ _).drew, bstay HN5.out (Below.refl _ _).drew (by have := (Array.getElem?_eq_some_iff.1 HN5.out).1; omega)⟩, (by decide), fun h => (by omega)⟩ ?each ?fin
  case each =>
    refine ⟨cht.quiet 2 rfl (by decide) (.inr ⟨9, _, rfl, rfl, ⟨0, .data⟩, by simp, rfl, rfl⟩) (by simp) (fun s => .agg #[.string ⟨#[115]⟩, .int .i64 lo, .int .i64 nx, .slice ga es.length cg, .slice ha ms.length ch]) (by rintro s _ ⟨⟩; exact dk.sets_on _ (by simp) _ rfl) (fun s k' W hk' hS => by obtain ⟨hZ, hN⟩ := hS.1 hk'; have c0 : W.cell? ⟨w2.heap.size, 0, none⟩ = some (.string ⟨#[115]⟩) := bcell hN rfl; have c1 : W.cell? ⟨w2.heap.size, 1, none⟩ = some (.int .i64 lo) := bcell hN rfl; have c2 : W.cell? ⟨w2.heap.size, 2, none⟩ = some (.int .i64 nx) := bcell hN rfl; have c3 : W.cell? ⟨w2.heap.size, 3, none⟩ = some (.slice ga es.length cg) := bcell hN rfl; have c4 : W.cell? ⟨w2.heap.size, 4, none⟩ = some (.slice ha ms.length ch) := bcell hN rfl; simp [execOp, go_sem, Act.eval, dk.sets_get, List.lookup, c0, c1, c2, c3, c4]), ?_⟩
    refine ⟨cht.quiet 3 rfl (by decide) (.inl rfl) (by simp) (fun s => .string rr) (by rintro s _ ⟨⟩; exact dk.sets_on _ (by simp) _ rfl) (fun s k' W hk' hS => by simp [execOp, go_sem, Act.eval, dk.sets_get, List.lookup]), ?_⟩
    refine ⟨cht.quiet 3 rfl (by decide) (.inl rfl) (by simp) (fun s => .pointer (some ⟨w.heap.size + 1, 0, none⟩)) (by rintro s _ ⟨⟩; exact dk.sets_on _ (by simp) _ rfl) (fun s k' W hk' hS => by simp [execOp, go_sem, Act.eval, dk.sets_get, List.lookup]), ?_⟩
    refine ⟨cht.quiet 3 rfl (by decide) (.inl rfl) (by simp) (fun s => .pointer (some ⟨w2.heap.size, 2, none⟩)) (by rintro s _ ⟨⟩; exact dk.sets_on _ (by simp) _ rfl) (fun s k' W hk' hS => by simp [execOp, go_sem, Act.eval, dk.sets_get, List.lookup]), ?_⟩
    refine ⟨cht.quiet 0 rfl (by decide) (.inr ⟨5, _, rfl, rfl, ⟨4, .data⟩, by simp, rfl, rfl⟩) (by simp) (fun s => .int .i64 nx) (by rintro s _ ⟨⟩; exact dk.sets_on _ (by simp) _ rfl) (fun s k' W hk' hS => by obtain ⟨hZ, hN⟩ := hS.1 (by omega); have c2 : W.cell? ⟨w2.heap.size, 2, none⟩ = some (.int .i64 nx) := bcell hN rfl; simp [execOp, go_sem, Act.eval, dk.sets_get, List.lookup, c2]), ?_⟩
    refine ⟨chd.call 0 [5, 6, 7, 8, 9, 10, 11] [20] (by kernel_rfl) (by kernel_rfl) rfl (by decide) rfl (.inl rfl) (by simp) 22 (fun s => #[.int .i64 nx]) (fun s W hS => by exact ⟨by simp [go_sem, Act.eval, dk.sets_get, List.lookup], (top_run nx W hn0).mono fun e w9 hh => by obtain ⟨rfl, rfl⟩ := hh; exact ⟨s, _, rfl, (by simp [chd.But]), (by rintro _ ⟨⟩; exact dk.sets_on _ (by simp) _ rfl), fun h => hS.1 (by omega), hS.2.1, fun h => (by omega)⟩⟩), ?_⟩
    refine ⟨cht.quiet 3 rfl (by decide) (.inl rfl) (by simp) (fun s => .int .i64 (nx + 3)) (by rintro s _ ⟨⟩; exact dk.sets_on _ (by simp) _ rfl) (fun s k' W hk' hS => by simp [execOp, go_sem, Act.eval, dk.sets_get, List.lookup, hwr]), ?_⟩
    refine ⟨chd.call 1 [7, 8, 9, 10, 11] [22, 23, 4] (by kernel_rfl) (by kernel_rfl) rfl (by decide) rfl (.inr ⟨⟨5, .chain⟩, by simp, rfl, rfl⟩) (by simp) 21 (fun s => #[.pointer (some ⟨w.heap.size + 1, 0, none⟩), .int .i64 (nx + 3)]) (fun s W hS => by exact ⟨by simp [go_sem, Act.eval, dk.sets_get, List.lookup], (HDB.out W (hS.1 (by omega)).1.cur).mono fun e w9 hh => by obtain ⟨⟨z9, hz9, rfl⟩, k1, k2⟩ := hh; exact ⟨{ s with x := z9 }, _, rfl, (by simp [chd.But]), (by rintro _ ⟨⟩; exact dk.sets_on _ (by simp) _ rfl), fun h => ⟨(hS.1 (by omega)).1.draw k1 k2, st_block (hS.1 (by omega)).2 k2 (by omega)⟩, (by show z9 < 600; omega), fun h => (by omega)⟩⟩), ?_⟩
    refine ⟨cht.quiet 3 rfl (by decide) (.inl rfl) (by simp) (fun s => .int .i64 ((s.x : Int) - 1)) (by rintro s _ ⟨⟩; exact dk.sets_on _ (by simp) _ rfl) (fun s k' W hk' hS => by have h9 := hS.2.1; have hwx : IntKind.i64.wrap ((s.x : Int) - 1) = (s.x : Int) - 1 := (by rw [IntKind.wrap_i64]; omega); simp [execOp, go_sem, Act.eval, dk.sets_get, List.lookup, hwx]), ?_⟩
    refine ⟨cht.sto 2 rfl (by decide) rfl (.inr ⟨⟨7, .chain⟩, by simp, rfl, rfl⟩) (by simp) rfl (fun s W hS => by obtain ⟨hZ, hN⟩ := hS.1 (by omega); have q0 : W.cell? ⟨w.heap.size, 0, none⟩ = some (.string ⟨#[]⟩) := bcell hZ.rb rfl; have q1 : W.cell? ⟨w.heap.size, 1, none⟩ = some (.int .i64 0) := bcell hZ.rb rfl; have q2 : W.cell? ⟨w.heap.size, 2, none⟩ = some (.int .i64 0) := bcell hZ.rb rfl; have q3 : W.cell? ⟨w.heap.size, 3, none⟩ = some (.slice none 0 0) := bcell hZ.rb rfl; have q4 : W.cell? ⟨w.heap.size, 4, none⟩ = some (.slice none 0 0) := bcell hZ.rb rfl; have r0 := bfree hZ.rb 0; have r1 := bfree hZ.rb 1; have r2 := bfree hZ.rb 2; have r3 := bfree hZ.rb 3; have r4 := bfree hZ.rb 4; exact ⟨res5 W w.heap.size (.string ⟨#[115]⟩) (.int .i64 lo) (.int .i64 nx) (.slice ga es.length cg) (.slice ha ms.length ch), by simp [execOp, go_sem, Act.eval, dk.sets_get, List.lookup, q0, q1, q2, q3, q4, r0, r1, r2, r3, r4, res5], fun h => (by omega), hS.2.1, fun _ => ⟨(hZ.done _ _ _ _ _).1, (hZ.done _ _ _ _ _).2, res5_at hZ.rb ..⟩⟩), ?_⟩
    refine ⟨cht.quiet 3 rfl (by decide) (.inl rfl) (by simp) (fun s => .string rr) (by rintro s _ ⟨⟩; exact dk.sets_on _ (by simp) _ rfl) (fun s k' W hk' hS => by simp [execOp, go_sem, Act.eval, dk.sets_get, List.lookup]), ?_⟩
    exact ⟨cht.quiet 3 rfl (by decide) (.inl rfl) (by simp) (fun s => .int .i64 ((s.x : Int) - 1)) (by rintro s _ ⟨⟩; exact dk.sets_on _ (by simp) _ rfl) (fun s k' W hk' hS => by simp [execOp, go_sem, Act.eval, dk.sets_get, List.lookup]), trivial⟩
  case fin =>
    intro s x5 hS
    clear HD5
    have hsx : s.x < 600 := hS.2.1
    obtain ⟨hd5, hb5, hr5⟩ := hS.2.2 rfl
    have q0 : x5.cell? ⟨w.heap.size, 0, none⟩ = some (.string ⟨#[115]⟩) := bcell hr5 rfl
    have q1 : x5.cell? ⟨w.heap.size, 1, none⟩ = some (.int .i64 lo) := bcell hr5 rfl
    have q2 : x5.cell? ⟨w.heap.size, 2, none⟩ = some (.int .i64 nx) := bcell hr5 rfl
    have q3 : x5.cell? ⟨w.heap.size, 3, none⟩ = some (.slice ga es.length cg) := bcell hr5 rfl
    have q4 : x5.cell? ⟨w.heap.size, 4, none⟩ = some (.slice ha ms.length ch) := bcell hr5 rfl
    have HD5 : Hid (Dr w.heap.size x5 es ms ga cg ha ch ∧ Below w.heap.size w x5 ∧ w.heap.size < x5.heap.size) := ⟨hd5, hb5, (Array.getElem?_eq_some_iff.1 hr5).1⟩
    obtain ⟨sx, sy, sA, sT, sU, sV, sB⟩ := s
    simp only [dk.sets]
    clear hS hd5 hb5 hr5
    go_wp2
    exact bodyPost_ret (v := .tuple #[.agg #[.string ⟨#[115]⟩, .int .i64 lo, .int .i64 nx, .slice ga es.length cg, .slice ha ms.length ch], .string rr, .int .i64 ((sx : Int) - 1)]) (by simp [results, Tryd.results5, go_sem, q0, q1, q2, q3, q4]) rfl ⟨⟨lo, nx, es, ms, ga, cg, ha, ch, rr, (sx : Int) - 1, rfl, HSM.out, HD5.out.1, hr4, by omega⟩, HD5.out.2⟩
set_option maxRecDepth 100000 in
set_option maxHeartbeats 2000000 in
theorem draw_Part (a : Option Addr) (len cap : Nat) (w : World) (hlen : len ≤ 1048576) (hc : dw.Code w w.heap.size a len) :
    Calls Tryd.prog 12 #[.slice a len cap] w fun e w' => (∃ (k : ByteArray) (n : Int), e = .returned (.tuple #[.string k, .int .i64 n]) ∧ k.size ≤ 100 ∧ n ≤ 1001) ∧ Below w.heap.size w w' := by
  have h1 := draw_new a len cap _ hlen hc
  clear hc
  go_enter Tryd.func12, Tryd.ntmps12
  go_wp2_with (go_at_call 18; fail)
  refine h1.mono ?_
  rintro e w1 ⟨rfl, hc1, hb1⟩
  have h2 := dp.draw_key w.heap.size a len cap w1 hc1
  clear h1 hc1
  go_wp2_with (go_at_call 33; fail)
  refine h2.mono ?_
  rintro e w2 ⟨⟨k, hk, rfl⟩, hc2, hb2⟩
  have hB2 : Below w.heap.size w w2 := hb1.trans (hb2.below (Nat.le_refl _) hb1.size)
  have hlt2 := hc2.lt
  have h3 := draw_pick_int w.heap.size a len cap w2.heap.size 6 intsP _ (by omega) (by omega) (at_list w2 intsP 3) (hc2.alloc _)
  have HB2 : Hid (Below w.heap.size w (w2.alloc (.cells (intsP.map (Value.int .i64)).toArray 3))) := hB2.alloc (by have := hB2.size; omega) _
  clear h2 hc2 hb2 hb1 hB2
  go_wp2_with (go_at_call 31; fail)
  refine h3.mono ?_
  rintro e w3 ⟨⟨z, hz, rfl⟩, hc3, hb3⟩
  have hz1 := intsP_in z hz
  have HB3 : Hid (Below w.heap.size w w3) := HB2.out.trans (hb3.below (Nat.le_refl _) (by have := HB2.out.size; omega))
  clear h3 hc3 hb3 hz HB2
  go_wp2
  go_ret2
  exact ⟨⟨k, z, rfl, hk, hz1⟩, HB3.out⟩
end Go.Proofs.YtlfhfcgcfggjcaaDoor.dmk

/- FnMarks, walked: what comes on the way is as it is told, at every code. -/
namespace Go.Proofs.YtlfhfcgcfggjcaaDoor.mwk
open Go.ChangeShapes Go.WideShapes Go.ChangeAt Go.RowKit Go.Proofs.YtlfhfcgcfggjcaaDoor.fl Go.Proofs.YtlfhfcgcfggjcaaDoor.fo Go.Proofs.YtlfhfcgcfggjcaaDoor.dw Go.Proofs.YtlfhfcgcfggjcaaDoor.rr Go.Proofs.YtlfhfcgcfggjcaaDoor.st Go.Proofs.YtlfhfcgcfggjcaaDoor.scp Go.Proofs.YtlfhfcgcfggjcaaDoor.spw Go.Proofs.YtlfhfcgcfggjcaaDoor.dsl Go.Proofs.YtlfhfcgcfggjcaaDoor.mtt
set_option linter.unusedVariables false

set_option maxRecDepth 100000 in
set_option maxHeartbeats 20000000 in
theorem walk (a0 : Option Addr) (len0 cap0 : Nat) (w : World) (hcode : dw.Code w w.heap.size a0 len0) (htab : TB w) :
    Calls Tryd.prog 3 #[.slice a0 len0 cap0] w fun e w' => e = .returned (.bool true) ∧ Below w.heap.size w w' := by
  by_cases hbig : (1048576 : Int) < len0
  · clear hcode htab
    go_enter Tryd.func3, Tryd.ntmps3
    go_wp2
    go_ret
    exact ⟨rfl, Below.refl _ _⟩
  have hlen : len0 ≤ 1048576 := by omega
  have h1 := dmk.draw_Mark a0 len0 cap0 w hlen hcode
  have HC : Hid (dw.Code w w.heap.size a0 len0) := hcode
  have HTB : Hid (TB w) := htab
  clear hcode htab
  go_enter Tryd.func3, Tryd.ntmps3
  go_wp2_with (first | (go_at_call 4; go_in) | (go_at_call 5; fail))
  refine h1.mono ?_
  rintro e w1 ⟨⟨lo, nx, es, ms, ga, cg, ha, ch, rd, o, rfl, hsm, hdr, hrd, ho⟩, hb1, hz1⟩
  have HSM : Hid (Sm 500 nx es ms) := hsm
  have HC_ : Hid (dw.Code w1 w1.heap.size a0 len0) := (HC.out.below hb1 (Nat.le_refl _)).mono (Below.size hb1)
  have HTB_ : Hid (TB w1) := HTB.out.below hb1
  clear HC HTB
  have HC := HC_
  have HTB := HTB_
  clear HC_ HTB_
  have HB : Hid (Below w.heap.size w w1) := hb1
  have HZ : Hid (0 < w1.heap.size) := Nat.lt_of_le_of_lt (Nat.zero_le _) hz1
  have HS : Hid (Dr 0 w1 es ms ga cg ha ch) := hdr.low (Nat.zero_le _)
  clear h1 hsm hdr hb1 hz1
  have hal : Below w1.heap.size w1 (w1.alloc (.cells #[.string ⟨#[115]⟩, .int .i64 lo, .int .i64 nx, .slice ga es.length cg, .slice ha ms.length ch] 27)) := (Below.refl _ _).alloc (Nat.le_refl _) _
  have HC_ : Hid (dw.Code (w1.alloc (.cells #[.string ⟨#[115]⟩, .int .i64 lo, .int .i64 nx, .slice ga es.length cg, .slice ha ms.length ch] 27)) (w1.alloc (.cells #[.string ⟨#[115]⟩, .int .i64 lo, .int .i64 nx, .slice ga es.length cg, .slice ha ms.length ch] 27)).heap.size a0 len0) := (HC.out.below hal (Nat.le_refl _)).mono (Below.size hal)
  have HTB_ : Hid (TB (w1.alloc (.cells #[.string ⟨#[115]⟩, .int .i64 lo, .int .i64 nx, .slice ga es.length cg, .slice ha ms.length ch] 27))) := HTB.out.below hal
  have HB_ : Hid (Below w.heap.size w (w1.alloc (.cells #[.string ⟨#[115]⟩, .int .i64 lo, .int .i64 nx, .slice ga es.length cg, .slice ha ms.length ch] 27))) := HB.out.trans (Below.mono hal (Below.size HB.out))
  have HZ_ : Hid (0 < (w1.alloc (.cells #[.string ⟨#[115]⟩, .int .i64 lo, .int .i64 nx, .slice ga es.length cg, .slice ha ms.length ch] 27)).heap.size) := Nat.lt_of_lt_of_le HZ.out (Below.size hal)
  have HS_ : Hid (Dr 0 (w1.alloc (.cells #[.string ⟨#[115]⟩, .int .i64 lo, .int .i64 nx, .slice ga es.length cg, .slice ha ms.length ch] 27)) es ms ga cg ha ch) := HS.out.below hal
  clear HC HTB HB HZ HS
  have HC := HC_
  have HTB := HTB_
  have HB := HB_
  have HZ := HZ_
  have HS := HS_
  clear HC_ HTB_ HB_ HZ_ HS_
  have BS : Hid ((w1.alloc (.cells #[.string ⟨#[115]⟩, .int .i64 lo, .int .i64 nx, .slice ga es.length cg, .slice ha ms.length ch] 27)).heap[w1.heap.size]? = some (.cells #[.string ⟨#[115]⟩, .int .i64 lo, .int .i64 nx, .slice ga es.length cg, .slice ha ms.length ch] 27 (0, 0))) := bnew w1 _ _
  clear hal
  have h2 := t_mark (lo := lo) HS.out HZ.out HSM.out rd o (by omega)
  have h3' := fun (W : World) (h : Dr 0 W es ms ga cg ha ch) (hz : 0 < W.heap.size) => s_mark (lo := lo) h hz HSM.out rd o (by omega)
  obtain ⟨TM, hTM⟩ : ∃ x, smp.ansM ⟨#[115]⟩ lo nx es ms rd o = x := ⟨_, rfl⟩
  obtain ⟨ft, hft⟩ : ∃ x, smp.fits ⟨#[115]⟩ lo nx es ms rd o = x := ⟨_, rfl⟩
  have HTM : Hid (smp.ansM ⟨#[115]⟩ lo nx es ms rd o = TM) := hTM
  have HFT : Hid (smp.fits ⟨#[115]⟩ lo nx es ms rd o = ft) := hft
  have HFM : Hid (Fit ⟨#[115]⟩ es TM) := by rw [← hTM]; exact mark_fit HSM.out (by omega)
  simp only [hTM, hft] at h2 h3'
  clear hTM hft
  go_wp2_with (go_at_call 6; fail)
  refine h2.mono ?_
  rintro e w2 ⟨sa1, sc1, sb1, sd1, rfl, hi2, hb2⟩
  have HC_ : Hid (dw.Code w2 w2.heap.size a0 len0) := (HC.out.below hb2 (Nat.le_refl _)).mono (Below.size hb2)
  have HTB_ : Hid (TB w2) := HTB.out.below hb2
  have HB_ : Hid (Below w.heap.size w w2) := HB.out.trans (Below.mono hb2 (Below.size HB.out))
  have HZ_ : Hid (0 < w2.heap.size) := Nat.lt_of_lt_of_le HZ.out (Below.size hb2)
  have HS_ : Hid (Dr 0 w2 es ms ga cg ha ch) := HS.out.below hb2
  have BS_ : Hid (w2.heap[w1.heap.size]? = some (.cells #[.string ⟨#[115]⟩, .int .i64 lo, .int .i64 nx, .slice ga es.length cg, .slice ha ms.length ch] 27 (0, 0))) := bstay BS.out hb2 (Array.getElem?_eq_some_iff.1 BS.out).1
  clear HC HTB HB HZ HS BS
  have HC := HC_
  have HTB := HTB_
  have HB := HB_
  have HZ := HZ_
  have HS := HS_
  have BS := BS_
  clear HC_ HTB_ HB_ HZ_ HS_ BS_
  clear h2 hb2 
  have HT : Hid (Im w2 es TM sa1 sc1 sb1 sd1) := hi2
  clear hi2
  have hal : Below w2.heap.size w2 (w2.alloc (.cells #[.string ⟨#[115]⟩, .int .i64 lo, .int .i64 nx, .slice sa1 es.length sc1, .slice sb1 TM.length sd1] 27)) := (Below.refl _ _).alloc (Nat.le_refl _) _
  have HC_ : Hid (dw.Code (w2.alloc (.cells #[.string ⟨#[115]⟩, .int .i64 lo, .int .i64 nx, .slice sa1 es.length sc1, .slice sb1 TM.length sd1] 27)) (w2.alloc (.cells #[.string ⟨#[115]⟩, .int .i64 lo, .int .i64 nx, .slice sa1 es.length sc1, .slice sb1 TM.length sd1] 27)).heap.size a0 len0) := (HC.out.below hal (Nat.le_refl _)).mono (Below.size hal)
  have HTB_ : Hid (TB (w2.alloc (.cells #[.string ⟨#[115]⟩, .int .i64 lo, .int .i64 nx, .slice sa1 es.length sc1, .slice sb1 TM.length sd1] 27))) := HTB.out.below hal
  have HB_ : Hid (Below w.heap.size w (w2.alloc (.cells #[.string ⟨#[115]⟩, .int .i64 lo, .int .i64 nx, .slice sa1 es.length sc1, .slice sb1 TM.length sd1] 27))) := HB.out.trans (Below.mono hal (Below.size HB.out))
  have HZ_ : Hid (0 < (w2.alloc (.cells #[.string ⟨#[115]⟩, .int .i64 lo, .int .i64 nx, .slice sa1 es.length sc1, .slice sb1 TM.length sd1] 27)).heap.size) := Nat.lt_of_lt_of_le HZ.out (Below.size hal)
  have HS_ : Hid (Dr 0 (w2.alloc (.cells #[.string ⟨#[115]⟩, .int .i64 lo, .int .i64 nx, .slice sa1 es.length sc1, .slice sb1 TM.length sd1] 27)) es ms ga cg ha ch) := HS.out.below hal
  have BS_ : Hid ((w2.alloc (.cells #[.string ⟨#[115]⟩, .int .i64 lo, .int .i64 nx, .slice sa1 es.length sc1, .slice sb1 TM.length sd1] 27)).heap[w1.heap.size]? = some (.cells #[.string ⟨#[115]⟩, .int .i64 lo, .int .i64 nx, .slice ga es.length cg, .slice ha ms.length ch] 27 (0, 0))) := bstay BS.out hal (Array.getElem?_eq_some_iff.1 BS.out).1
  have HT_ : Hid (Im (w2.alloc (.cells #[.string ⟨#[115]⟩, .int .i64 lo, .int .i64 nx, .slice sa1 es.length sc1, .slice sb1 TM.length sd1] 27)) es TM sa1 sc1 sb1 sd1) := HT.out.below hal
  clear HC HTB HB HZ HS BS HT
  have HC := HC_
  have HTB := HTB_
  have HB := HB_
  have HZ := HZ_
  have HS := HS_
  have BS := BS_
  have HT := HT_
  clear HC_ HTB_ HB_ HZ_ HS_ BS_ HT_
  have BT : Hid ((w2.alloc (.cells #[.string ⟨#[115]⟩, .int .i64 lo, .int .i64 nx, .slice sa1 es.length sc1, .slice sb1 TM.length sd1] 27)).heap[w2.heap.size]? = some (.cells #[.string ⟨#[115]⟩, .int .i64 lo, .int .i64 nx, .slice sa1 es.length sc1, .slice sb1 TM.length sd1] 27 (0, 0))) := bnew w2 _ _
  clear hal
  have x0 : (w2.alloc (.cells #[.string ⟨#[115]⟩, .int .i64 lo, .int .i64 nx, .slice sa1 es.length sc1, .slice sb1 TM.length sd1] 27)).cell? ⟨w1.heap.size, 0, none⟩ = some (.string ⟨#[115]⟩) := bcell BS.out rfl
  have x1 : (w2.alloc (.cells #[.string ⟨#[115]⟩, .int .i64 lo, .int .i64 nx, .slice sa1 es.length sc1, .slice sb1 TM.length sd1] 27)).cell? ⟨w1.heap.size, 1, none⟩ = some (.int .i64 lo) := bcell BS.out rfl
  have x2 : (w2.alloc (.cells #[.string ⟨#[115]⟩, .int .i64 lo, .int .i64 nx, .slice sa1 es.length sc1, .slice sb1 TM.length sd1] 27)).cell? ⟨w1.heap.size, 2, none⟩ = some (.int .i64 nx) := bcell BS.out rfl
  have x3 : (w2.alloc (.cells #[.string ⟨#[115]⟩, .int .i64 lo, .int .i64 nx, .slice sa1 es.length sc1, .slice sb1 TM.length sd1] 27)).cell? ⟨w1.heap.size, 3, none⟩ = some (.slice ga es.length cg) := bcell BS.out rfl
  have x4 : (w2.alloc (.cells #[.string ⟨#[115]⟩, .int .i64 lo, .int .i64 nx, .slice sa1 es.length sc1, .slice sb1 TM.length sd1] 27)).cell? ⟨w1.heap.size, 4, none⟩ = some (.slice ha ms.length ch) := bcell BS.out rfl
  have h3 := h3' _ HS.out HZ.out
  clear h3'
  go_wp2_with (go_at_call 7; fail)
  refine h3.mono ?_
  rintro e w3 ⟨sa2, sc2, sb2, sd2, rfl, hi3, hb3⟩
  have HC_ : Hid (dw.Code w3 w3.heap.size a0 len0) := (HC.out.below hb3 (Nat.le_refl _)).mono (Below.size hb3)
  have HTB_ : Hid (TB w3) := HTB.out.below hb3
  have HB_ : Hid (Below w.heap.size w w3) := HB.out.trans (Below.mono hb3 (Below.size HB.out))
  have HZ_ : Hid (0 < w3.heap.size) := Nat.lt_of_lt_of_le HZ.out (Below.size hb3)
  have HS_ : Hid (Dr 0 w3 es ms ga cg ha ch) := HS.out.below hb3
  have BS_ : Hid (w3.heap[w1.heap.size]? = some (.cells #[.string ⟨#[115]⟩, .int .i64 lo, .int .i64 nx, .slice ga es.length cg, .slice ha ms.length ch] 27 (0, 0))) := bstay BS.out hb3 (Array.getElem?_eq_some_iff.1 BS.out).1
  have HT_ : Hid (Im w3 es TM sa1 sc1 sb1 sd1) := HT.out.below hb3
  have BT_ : Hid (w3.heap[w2.heap.size]? = some (.cells #[.string ⟨#[115]⟩, .int .i64 lo, .int .i64 nx, .slice sa1 es.length sc1, .slice sb1 TM.length sd1] 27 (0, 0))) := bstay BT.out hb3 (Array.getElem?_eq_some_iff.1 BT.out).1
  clear HC HTB HB HZ HS BS HT BT
  have HC := HC_
  have HTB := HTB_
  have HB := HB_
  have HZ := HZ_
  have HS := HS_
  have BS := BS_
  have HT := HT_
  have BT := BT_
  clear HC_ HTB_ HB_ HZ_ HS_ BS_ HT_ BT_
  clear h3 hb3 x0 x1 x2 x3 x4
  have HW : Hid (Im w3 es TM sa2 sc2 sb2 sd2) := hi3
  clear hi3
  have hal : Below w3.heap.size w3 (w3.alloc (.cells #[.string ⟨#[115]⟩, .int .i64 lo, .int .i64 nx, .slice sa2 es.length sc2, .slice sb2 TM.length sd2] 27)) := (Below.refl _ _).alloc (Nat.le_refl _) _
  have HC_ : Hid (dw.Code (w3.alloc (.cells #[.string ⟨#[115]⟩, .int .i64 lo, .int .i64 nx, .slice sa2 es.length sc2, .slice sb2 TM.length sd2] 27)) (w3.alloc (.cells #[.string ⟨#[115]⟩, .int .i64 lo, .int .i64 nx, .slice sa2 es.length sc2, .slice sb2 TM.length sd2] 27)).heap.size a0 len0) := (HC.out.below hal (Nat.le_refl _)).mono (Below.size hal)
  have HTB_ : Hid (TB (w3.alloc (.cells #[.string ⟨#[115]⟩, .int .i64 lo, .int .i64 nx, .slice sa2 es.length sc2, .slice sb2 TM.length sd2] 27))) := HTB.out.below hal
  have HB_ : Hid (Below w.heap.size w (w3.alloc (.cells #[.string ⟨#[115]⟩, .int .i64 lo, .int .i64 nx, .slice sa2 es.length sc2, .slice sb2 TM.length sd2] 27))) := HB.out.trans (Below.mono hal (Below.size HB.out))
  have HZ_ : Hid (0 < (w3.alloc (.cells #[.string ⟨#[115]⟩, .int .i64 lo, .int .i64 nx, .slice sa2 es.length sc2, .slice sb2 TM.length sd2] 27)).heap.size) := Nat.lt_of_lt_of_le HZ.out (Below.size hal)
  have HS_ : Hid (Dr 0 (w3.alloc (.cells #[.string ⟨#[115]⟩, .int .i64 lo, .int .i64 nx, .slice sa2 es.length sc2, .slice sb2 TM.length sd2] 27)) es ms ga cg ha ch) := HS.out.below hal
  have BS_ : Hid ((w3.alloc (.cells #[.string ⟨#[115]⟩, .int .i64 lo, .int .i64 nx, .slice sa2 es.length sc2, .slice sb2 TM.length sd2] 27)).heap[w1.heap.size]? = some (.cells #[.string ⟨#[115]⟩, .int .i64 lo, .int .i64 nx, .slice ga es.length cg, .slice ha ms.length ch] 27 (0, 0))) := bstay BS.out hal (Array.getElem?_eq_some_iff.1 BS.out).1
  have HT_ : Hid (Im (w3.alloc (.cells #[.string ⟨#[115]⟩, .int .i64 lo, .int .i64 nx, .slice sa2 es.length sc2, .slice sb2 TM.length sd2] 27)) es TM sa1 sc1 sb1 sd1) := HT.out.below hal
  have BT_ : Hid ((w3.alloc (.cells #[.string ⟨#[115]⟩, .int .i64 lo, .int .i64 nx, .slice sa2 es.length sc2, .slice sb2 TM.length sd2] 27)).heap[w2.heap.size]? = some (.cells #[.string ⟨#[115]⟩, .int .i64 lo, .int .i64 nx, .slice sa1 es.length sc1, .slice sb1 TM.length sd1] 27 (0, 0))) := bstay BT.out hal (Array.getElem?_eq_some_iff.1 BT.out).1
  have HW_ : Hid (Im (w3.alloc (.cells #[.string ⟨#[115]⟩, .int .i64 lo, .int .i64 nx, .slice sa2 es.length sc2, .slice sb2 TM.length sd2] 27)) es TM sa2 sc2 sb2 sd2) := HW.out.below hal
  clear HC HTB HB HZ HS BS HT BT HW
  have HC := HC_
  have HTB := HTB_
  have HB := HB_
  have HZ := HZ_
  have HS := HS_
  have BS := BS_
  have HT := HT_
  have BT := BT_
  have HW := HW_
  clear HC_ HTB_ HB_ HZ_ HS_ BS_ HT_ BT_ HW_
  have BW : Hid ((w3.alloc (.cells #[.string ⟨#[115]⟩, .int .i64 lo, .int .i64 nx, .slice sa2 es.length sc2, .slice sb2 TM.length sd2] 27)).heap[w3.heap.size]? = some (.cells #[.string ⟨#[115]⟩, .int .i64 lo, .int .i64 nx, .slice sa2 es.length sc2, .slice sb2 TM.length sd2] 27 (0, 0))) := bnew w3 _ _
  clear hal
  have h4 := dmk.draw_Read a0 len0 cap0 _ hlen HC.out
  go_wp2_with (go_at_call 8; fail)
  refine h4.mono ?_
  rintro e w4 ⟨⟨lo2, nx2, es2, ms2, ga2, cg2, ha2, ch2, fr, mo, rfl, hsm2, hdr2, hfr, hmo⟩, hb4, hz4⟩
  have HC_ : Hid (dw.Code w4 w4.heap.size a0 len0) := (HC.out.below hb4 (Nat.le_refl _)).mono (Below.size hb4)
  have HTB_ : Hid (TB w4) := HTB.out.below hb4
  have HB_ : Hid (Below w.heap.size w w4) := HB.out.trans (Below.mono hb4 (Below.size HB.out))
  have HZ_ : Hid (0 < w4.heap.size) := Nat.lt_of_lt_of_le HZ.out (Below.size hb4)
  have HS_ : Hid (Dr 0 w4 es ms ga cg ha ch) := HS.out.below hb4
  have BS_ : Hid (w4.heap[w1.heap.size]? = some (.cells #[.string ⟨#[115]⟩, .int .i64 lo, .int .i64 nx, .slice ga es.length cg, .slice ha ms.length ch] 27 (0, 0))) := bstay BS.out hb4 (Array.getElem?_eq_some_iff.1 BS.out).1
  have HT_ : Hid (Im w4 es TM sa1 sc1 sb1 sd1) := HT.out.below hb4
  have BT_ : Hid (w4.heap[w2.heap.size]? = some (.cells #[.string ⟨#[115]⟩, .int .i64 lo, .int .i64 nx, .slice sa1 es.length sc1, .slice sb1 TM.length sd1] 27 (0, 0))) := bstay BT.out hb4 (Array.getElem?_eq_some_iff.1 BT.out).1
  have HW_ : Hid (Im w4 es TM sa2 sc2 sb2 sd2) := HW.out.below hb4
  have BW_ : Hid (w4.heap[w3.heap.size]? = some (.cells #[.string ⟨#[115]⟩, .int .i64 lo, .int .i64 nx, .slice sa2 es.length sc2, .slice sb2 TM.length sd2] 27 (0, 0))) := bstay BW.out hb4 (Array.getElem?_eq_some_iff.1 BW.out).1
  clear HC HTB HB HZ HS BS HT BT HW BW
  have HC := HC_
  have HTB := HTB_
  have HB := HB_
  have HZ := HZ_
  have HS := HS_
  have BS := BS_
  have HT := HT_
  have BT := BT_
  have HW := HW_
  have BW := BW_
  clear HC_ HTB_ HB_ HZ_ HS_ BS_ HT_ BT_ HW_ BW_
  clear h4 hb4 hz4
  have HA : Hid (Dr 0 w4 es2 ms2 ga2 cg2 ha2 ch2) := hdr2.low (Nat.zero_le _)
  have HSM2 : Hid (Sm 500 nx2 es2 ms2) := hsm2
  clear hdr2 hsm2
  have hal : Below w4.heap.size w4 (w4.alloc (.cells #[.string ⟨#[115]⟩, .int .i64 lo2, .int .i64 nx2, .slice ga2 es2.length cg2, .slice ha2 ms2.length ch2] 27)) := (Below.refl _ _).alloc (Nat.le_refl _) _
  have HC_ : Hid (dw.Code (w4.alloc (.cells #[.string ⟨#[115]⟩, .int .i64 lo2, .int .i64 nx2, .slice ga2 es2.length cg2, .slice ha2 ms2.length ch2] 27)) (w4.alloc (.cells #[.string ⟨#[115]⟩, .int .i64 lo2, .int .i64 nx2, .slice ga2 es2.length cg2, .slice ha2 ms2.length ch2] 27)).heap.size a0 len0) := (HC.out.below hal (Nat.le_refl _)).mono (Below.size hal)
  have HTB_ : Hid (TB (w4.alloc (.cells #[.string ⟨#[115]⟩, .int .i64 lo2, .int .i64 nx2, .slice ga2 es2.length cg2, .slice ha2 ms2.length ch2] 27))) := HTB.out.below hal
  have HB_ : Hid (Below w.heap.size w (w4.alloc (.cells #[.string ⟨#[115]⟩, .int .i64 lo2, .int .i64 nx2, .slice ga2 es2.length cg2, .slice ha2 ms2.length ch2] 27))) := HB.out.trans (Below.mono hal (Below.size HB.out))
  have HZ_ : Hid (0 < (w4.alloc (.cells #[.string ⟨#[115]⟩, .int .i64 lo2, .int .i64 nx2, .slice ga2 es2.length cg2, .slice ha2 ms2.length ch2] 27)).heap.size) := Nat.lt_of_lt_of_le HZ.out (Below.size hal)
  have HS_ : Hid (Dr 0 (w4.alloc (.cells #[.string ⟨#[115]⟩, .int .i64 lo2, .int .i64 nx2, .slice ga2 es2.length cg2, .slice ha2 ms2.length ch2] 27)) es ms ga cg ha ch) := HS.out.below hal
  have BS_ : Hid ((w4.alloc (.cells #[.string ⟨#[115]⟩, .int .i64 lo2, .int .i64 nx2, .slice ga2 es2.length cg2, .slice ha2 ms2.length ch2] 27)).heap[w1.heap.size]? = some (.cells #[.string ⟨#[115]⟩, .int .i64 lo, .int .i64 nx, .slice ga es.length cg, .slice ha ms.length ch] 27 (0, 0))) := bstay BS.out hal (Array.getElem?_eq_some_iff.1 BS.out).1
  have HT_ : Hid (Im (w4.alloc (.cells #[.string ⟨#[115]⟩, .int .i64 lo2, .int .i64 nx2, .slice ga2 es2.length cg2, .slice ha2 ms2.length ch2] 27)) es TM sa1 sc1 sb1 sd1) := HT.out.below hal
  have BT_ : Hid ((w4.alloc (.cells #[.string ⟨#[115]⟩, .int .i64 lo2, .int .i64 nx2, .slice ga2 es2.length cg2, .slice ha2 ms2.length ch2] 27)).heap[w2.heap.size]? = some (.cells #[.string ⟨#[115]⟩, .int .i64 lo, .int .i64 nx, .slice sa1 es.length sc1, .slice sb1 TM.length sd1] 27 (0, 0))) := bstay BT.out hal (Array.getElem?_eq_some_iff.1 BT.out).1
  have HW_ : Hid (Im (w4.alloc (.cells #[.string ⟨#[115]⟩, .int .i64 lo2, .int .i64 nx2, .slice ga2 es2.length cg2, .slice ha2 ms2.length ch2] 27)) es TM sa2 sc2 sb2 sd2) := HW.out.below hal
  have BW_ : Hid ((w4.alloc (.cells #[.string ⟨#[115]⟩, .int .i64 lo2, .int .i64 nx2, .slice ga2 es2.length cg2, .slice ha2 ms2.length ch2] 27)).heap[w3.heap.size]? = some (.cells #[.string ⟨#[115]⟩, .int .i64 lo, .int .i64 nx, .slice sa2 es.length sc2, .slice sb2 TM.length sd2] 27 (0, 0))) := bstay BW.out hal (Array.getElem?_eq_some_iff.1 BW.out).1
  have HA_ : Hid (Dr 0 (w4.alloc (.cells #[.string ⟨#[115]⟩, .int .i64 lo2, .int .i64 nx2, .slice ga2 es2.length cg2, .slice ha2 ms2.length ch2] 27)) es2 ms2 ga2 cg2 ha2 ch2) := HA.out.below hal
  clear HC HTB HB HZ HS BS HT BT HW BW HA
  have HC := HC_
  have HTB := HTB_
  have HB := HB_
  have HZ := HZ_
  have HS := HS_
  have BS := BS_
  have HT := HT_
  have BT := BT_
  have HW := HW_
  have BW := BW_
  have HA := HA_
  clear HC_ HTB_ HB_ HZ_ HS_ BS_ HT_ BT_ HW_ BW_ HA_
  have BA : Hid ((w4.alloc (.cells #[.string ⟨#[115]⟩, .int .i64 lo2, .int .i64 nx2, .slice ga2 es2.length cg2, .slice ha2 ms2.length ch2] 27)).heap[w4.heap.size]? = some (.cells #[.string ⟨#[115]⟩, .int .i64 lo2, .int .i64 nx2, .slice ga2 es2.length cg2, .slice ha2 ms2.length ch2] 27 (0, 0))) := bnew w4 _ _
  clear hal
  have h5 := t_read (lo := lo2) HA.out HZ.out HSM2.out fr mo
  have h6' := fun (W : World) (h : Dr 0 W es2 ms2 ga2 cg2 ha2 ch2) (hz : 0 < W.heap.size) => s_read (lo := lo2) h hz HSM2.out fr mo
  obtain ⟨RE, hRE⟩ : ∃ x, srd.read ⟨#[115]⟩ lo2 nx2 es2 ms2 fr mo = x := ⟨_, rfl⟩
  have HRE : Hid (srd.read ⟨#[115]⟩ lo2 nx2 es2 ms2 fr mo = RE) := hRE
  simp only [hRE] at h5 h6'
  clear hRE
  go_wp2_with (go_at_call 9; fail)
  refine h5.mono ?_
  rintro e w5 ⟨la, lca, rfl, hr5, hb5⟩
  have HC_ : Hid (dw.Code w5 w5.heap.size a0 len0) := (HC.out.below hb5 (Nat.le_refl _)).mono (Below.size hb5)
  have HTB_ : Hid (TB w5) := HTB.out.below hb5
  have HB_ : Hid (Below w.heap.size w w5) := HB.out.trans (Below.mono hb5 (Below.size HB.out))
  have HZ_ : Hid (0 < w5.heap.size) := Nat.lt_of_lt_of_le HZ.out (Below.size hb5)
  have HS_ : Hid (Dr 0 w5 es ms ga cg ha ch) := HS.out.below hb5
  have BS_ : Hid (w5.heap[w1.heap.size]? = some (.cells #[.string ⟨#[115]⟩, .int .i64 lo, .int .i64 nx, .slice ga es.length cg, .slice ha ms.length ch] 27 (0, 0))) := bstay BS.out hb5 (Array.getElem?_eq_some_iff.1 BS.out).1
  have HT_ : Hid (Im w5 es TM sa1 sc1 sb1 sd1) := HT.out.below hb5
  have BT_ : Hid (w5.heap[w2.heap.size]? = some (.cells #[.string ⟨#[115]⟩, .int .i64 lo, .int .i64 nx, .slice sa1 es.length sc1, .slice sb1 TM.length sd1] 27 (0, 0))) := bstay BT.out hb5 (Array.getElem?_eq_some_iff.1 BT.out).1
  have HW_ : Hid (Im w5 es TM sa2 sc2 sb2 sd2) := HW.out.below hb5
  have BW_ : Hid (w5.heap[w3.heap.size]? = some (.cells #[.string ⟨#[115]⟩, .int .i64 lo, .int .i64 nx, .slice sa2 es.length sc2, .slice sb2 TM.length sd2] 27 (0, 0))) := bstay BW.out hb5 (Array.getElem?_eq_some_iff.1 BW.out).1
  have HA_ : Hid (Dr 0 w5 es2 ms2 ga2 cg2 ha2 ch2) := HA.out.below hb5
  have BA_ : Hid (w5.heap[w4.heap.size]? = some (.cells #[.string ⟨#[115]⟩, .int .i64 lo2, .int .i64 nx2, .slice ga2 es2.length cg2, .slice ha2 ms2.length ch2] 27 (0, 0))) := bstay BA.out hb5 (Array.getElem?_eq_some_iff.1 BA.out).1
  clear HC HTB HB HZ HS BS HT BT HW BW HA BA
  have HC := HC_
  have HTB := HTB_
  have HB := HB_
  have HZ := HZ_
  have HS := HS_
  have BS := BS_
  have HT := HT_
  have BT := BT_
  have HW := HW_
  have BW := BW_
  have HA := HA_
  have BA := BA_
  clear HC_ HTB_ HB_ HZ_ HS_ BS_ HT_ BT_ HW_ BW_ HA_ BA_
  clear h5 hb5 
  have HRA : Hid (Row flY.c 3 w5 w5.heap.size la RE) := hr5
  have x0 : w5.cell? ⟨w4.heap.size, 0, none⟩ = some (.string ⟨#[115]⟩) := bcell BA.out rfl
  have x1 : w5.cell? ⟨w4.heap.size, 1, none⟩ = some (.int .i64 lo2) := bcell BA.out rfl
  have x2 : w5.cell? ⟨w4.heap.size, 2, none⟩ = some (.int .i64 nx2) := bcell BA.out rfl
  have x3 : w5.cell? ⟨w4.heap.size, 3, none⟩ = some (.slice ga2 es2.length cg2) := bcell BA.out rfl
  have x4 : w5.cell? ⟨w4.heap.size, 4, none⟩ = some (.slice ha2 ms2.length ch2) := bcell BA.out rfl
  have h6 := h6' _ HA.out HZ.out
  clear h6' hr5
  go_wp2_with (go_at_call 10; fail)
  refine h6.mono ?_
  rintro e w6 ⟨lb, lcb, rfl, hr6, hb6⟩
  have HC_ : Hid (dw.Code w6 w6.heap.size a0 len0) := (HC.out.below hb6 (Nat.le_refl _)).mono (Below.size hb6)
  have HTB_ : Hid (TB w6) := HTB.out.below hb6
  have HB_ : Hid (Below w.heap.size w w6) := HB.out.trans (Below.mono hb6 (Below.size HB.out))
  have HZ_ : Hid (0 < w6.heap.size) := Nat.lt_of_lt_of_le HZ.out (Below.size hb6)
  have HS_ : Hid (Dr 0 w6 es ms ga cg ha ch) := HS.out.below hb6
  have BS_ : Hid (w6.heap[w1.heap.size]? = some (.cells #[.string ⟨#[115]⟩, .int .i64 lo, .int .i64 nx, .slice ga es.length cg, .slice ha ms.length ch] 27 (0, 0))) := bstay BS.out hb6 (Array.getElem?_eq_some_iff.1 BS.out).1
  have HT_ : Hid (Im w6 es TM sa1 sc1 sb1 sd1) := HT.out.below hb6
  have BT_ : Hid (w6.heap[w2.heap.size]? = some (.cells #[.string ⟨#[115]⟩, .int .i64 lo, .int .i64 nx, .slice sa1 es.length sc1, .slice sb1 TM.length sd1] 27 (0, 0))) := bstay BT.out hb6 (Array.getElem?_eq_some_iff.1 BT.out).1
  have HW_ : Hid (Im w6 es TM sa2 sc2 sb2 sd2) := HW.out.below hb6
  have BW_ : Hid (w6.heap[w3.heap.size]? = some (.cells #[.string ⟨#[115]⟩, .int .i64 lo, .int .i64 nx, .slice sa2 es.length sc2, .slice sb2 TM.length sd2] 27 (0, 0))) := bstay BW.out hb6 (Array.getElem?_eq_some_iff.1 BW.out).1
  have HA_ : Hid (Dr 0 w6 es2 ms2 ga2 cg2 ha2 ch2) := HA.out.below hb6
  have BA_ : Hid (w6.heap[w4.heap.size]? = some (.cells #[.string ⟨#[115]⟩, .int .i64 lo2, .int .i64 nx2, .slice ga2 es2.length cg2, .slice ha2 ms2.length ch2] 27 (0, 0))) := bstay BA.out hb6 (Array.getElem?_eq_some_iff.1 BA.out).1
  have HRA_ : Hid (Row flY.c 3 w6 w6.heap.size la RE) := HRA.out.inn hb6
  clear HC HTB HB HZ HS BS HT BT HW BW HA BA HRA
  have HC := HC_
  have HTB := HTB_
  have HB := HB_
  have HZ := HZ_
  have HS := HS_
  have BS := BS_
  have HT := HT_
  have BT := BT_
  have HW := HW_
  have BW := BW_
  have HA := HA_
  have BA := BA_
  have HRA := HRA_
  clear HC_ HTB_ HB_ HZ_ HS_ BS_ HT_ BT_ HW_ BW_ HA_ BA_ HRA_
  clear h6 hb6 x0 x1 x2 x3 x4
  have HRB : Hid (Row flY.c 3 w6 w6.heap.size lb RE) := hr6
  clear hr6
  have h7 := dmk.draw_Marked a0 len0 cap0 _ hlen HC.out
  go_wp2_with (go_at_call 11; fail)
  refine h7.mono ?_
  rintro e w7 ⟨⟨lo3, nx3, es3, ms3, ga3, cg3, ha3, ch3, nm, rfl, hsm3, hdr3, hnm⟩, hb7, hz7⟩
  have HC_ : Hid (dw.Code w7 w7.heap.size a0 len0) := (HC.out.below hb7 (Nat.le_refl _)).mono (Below.size hb7)
  have HTB_ : Hid (TB w7) := HTB.out.below hb7
  have HB_ : Hid (Below w.heap.size w w7) := HB.out.trans (Below.mono hb7 (Below.size HB.out))
  have HZ_ : Hid (0 < w7.heap.size) := Nat.lt_of_lt_of_le HZ.out (Below.size hb7)
  have HS_ : Hid (Dr 0 w7 es ms ga cg ha ch) := HS.out.below hb7
  have BS_ : Hid (w7.heap[w1.heap.size]? = some (.cells #[.string ⟨#[115]⟩, .int .i64 lo, .int .i64 nx, .slice ga es.length cg, .slice ha ms.length ch] 27 (0, 0))) := bstay BS.out hb7 (Array.getElem?_eq_some_iff.1 BS.out).1
  have HT_ : Hid (Im w7 es TM sa1 sc1 sb1 sd1) := HT.out.below hb7
  have BT_ : Hid (w7.heap[w2.heap.size]? = some (.cells #[.string ⟨#[115]⟩, .int .i64 lo, .int .i64 nx, .slice sa1 es.length sc1, .slice sb1 TM.length sd1] 27 (0, 0))) := bstay BT.out hb7 (Array.getElem?_eq_some_iff.1 BT.out).1
  have HW_ : Hid (Im w7 es TM sa2 sc2 sb2 sd2) := HW.out.below hb7
  have BW_ : Hid (w7.heap[w3.heap.size]? = some (.cells #[.string ⟨#[115]⟩, .int .i64 lo, .int .i64 nx, .slice sa2 es.length sc2, .slice sb2 TM.length sd2] 27 (0, 0))) := bstay BW.out hb7 (Array.getElem?_eq_some_iff.1 BW.out).1
  have HA_ : Hid (Dr 0 w7 es2 ms2 ga2 cg2 ha2 ch2) := HA.out.below hb7
  have BA_ : Hid (w7.heap[w4.heap.size]? = some (.cells #[.string ⟨#[115]⟩, .int .i64 lo2, .int .i64 nx2, .slice ga2 es2.length cg2, .slice ha2 ms2.length ch2] 27 (0, 0))) := bstay BA.out hb7 (Array.getElem?_eq_some_iff.1 BA.out).1
  have HRA_ : Hid (Row flY.c 3 w7 w7.heap.size la RE) := HRA.out.inn hb7
  have HRB_ : Hid (Row flY.c 3 w7 w7.heap.size lb RE) := HRB.out.inn hb7
  clear HC HTB HB HZ HS BS HT BT HW BW HA BA HRA HRB
  have HC := HC_
  have HTB := HTB_
  have HB := HB_
  have HZ := HZ_
  have HS := HS_
  have BS := BS_
  have HT := HT_
  have BT := BT_
  have HW := HW_
  have BW := BW_
  have HA := HA_
  have BA := BA_
  have HRA := HRA_
  have HRB := HRB_
  clear HC_ HTB_ HB_ HZ_ HS_ BS_ HT_ BT_ HW_ BW_ HA_ BA_ HRA_ HRB_
  clear h7 hb7 hz7
  have HD : Hid (Dr 0 w7 es3 ms3 ga3 cg3 ha3 ch3) := hdr3.low (Nat.zero_le _)
  have HSM3 : Hid (Sm 500 nx3 es3 ms3) := hsm3
  clear hdr3 hsm3
  have hal : Below w7.heap.size w7 (w7.alloc (.cells #[.string ⟨#[115]⟩, .int .i64 lo3, .int .i64 nx3, .slice ga3 es3.length cg3, .slice ha3 ms3.length ch3] 27)) := (Below.refl _ _).alloc (Nat.le_refl _) _
  have HC_ : Hid (dw.Code (w7.alloc (.cells #[.string ⟨#[115]⟩, .int .i64 lo3, .int .i64 nx3, .slice ga3 es3.length cg3, .slice ha3 ms3.length ch3] 27)) (w7.alloc (.cells #[.string ⟨#[115]⟩, .int .i64 lo3, .int .i64 nx3, .slice ga3 es3.length cg3, .slice ha3 ms3.length ch3] 27)).heap.size a0 len0) := (HC.out.below hal (Nat.le_refl _)).mono (Below.size hal)
  have HTB_ : Hid (TB (w7.alloc (.cells #[.string ⟨#[115]⟩, .int .i64 lo3, .int .i64 nx3, .slice ga3 es3.length cg3, .slice ha3 ms3.length ch3] 27))) := HTB.out.below hal
  have HB_ : Hid (Below w.heap.size w (w7.alloc (.cells #[.string ⟨#[115]⟩, .int .i64 lo3, .int .i64 nx3, .slice ga3 es3.length cg3, .slice ha3 ms3.length ch3] 27))) := HB.out.trans (Below.mono hal (Below.size HB.out))
  have HZ_ : Hid (0 < (w7.alloc (.cells #[.string ⟨#[115]⟩, .int .i64 lo3, .int .i64 nx3, .slice ga3 es3.length cg3, .slice ha3 ms3.length ch3] 27)).heap.size) := Nat.lt_of_lt_of_le HZ.out (Below.size hal)
  have HS_ : Hid (Dr 0 (w7.alloc (.cells #[.string ⟨#[115]⟩, .int .i64 lo3, .int .i64 nx3, .slice ga3 es3.length cg3, .slice ha3 ms3.length ch3] 27)) es ms ga cg ha ch) := HS.out.below hal
  have BS_ : Hid ((w7.alloc (.cells #[.string ⟨#[115]⟩, .int .i64 lo3, .int .i64 nx3, .slice ga3 es3.length cg3, .slice ha3 ms3.length ch3] 27)).heap[w1.heap.size]? = some (.cells #[.string ⟨#[115]⟩, .int .i64 lo, .int .i64 nx, .slice ga es.length cg, .slice ha ms.length ch] 27 (0, 0))) := bstay BS.out hal (Array.getElem?_eq_some_iff.1 BS.out).1
  have HT_ : Hid (Im (w7.alloc (.cells #[.string ⟨#[115]⟩, .int .i64 lo3, .int .i64 nx3, .slice ga3 es3.length cg3, .slice ha3 ms3.length ch3] 27)) es TM sa1 sc1 sb1 sd1) := HT.out.below hal
  have BT_ : Hid ((w7.alloc (.cells #[.string ⟨#[115]⟩, .int .i64 lo3, .int .i64 nx3, .slice ga3 es3.length cg3, .slice ha3 ms3.length ch3] 27)).heap[w2.heap.size]? = some (.cells #[.string ⟨#[115]⟩, .int .i64 lo, .int .i64 nx, .slice sa1 es.length sc1, .slice sb1 TM.length sd1] 27 (0, 0))) := bstay BT.out hal (Array.getElem?_eq_some_iff.1 BT.out).1
  have HW_ : Hid (Im (w7.alloc (.cells #[.string ⟨#[115]⟩, .int .i64 lo3, .int .i64 nx3, .slice ga3 es3.length cg3, .slice ha3 ms3.length ch3] 27)) es TM sa2 sc2 sb2 sd2) := HW.out.below hal
  have BW_ : Hid ((w7.alloc (.cells #[.string ⟨#[115]⟩, .int .i64 lo3, .int .i64 nx3, .slice ga3 es3.length cg3, .slice ha3 ms3.length ch3] 27)).heap[w3.heap.size]? = some (.cells #[.string ⟨#[115]⟩, .int .i64 lo, .int .i64 nx, .slice sa2 es.length sc2, .slice sb2 TM.length sd2] 27 (0, 0))) := bstay BW.out hal (Array.getElem?_eq_some_iff.1 BW.out).1
  have HA_ : Hid (Dr 0 (w7.alloc (.cells #[.string ⟨#[115]⟩, .int .i64 lo3, .int .i64 nx3, .slice ga3 es3.length cg3, .slice ha3 ms3.length ch3] 27)) es2 ms2 ga2 cg2 ha2 ch2) := HA.out.below hal
  have BA_ : Hid ((w7.alloc (.cells #[.string ⟨#[115]⟩, .int .i64 lo3, .int .i64 nx3, .slice ga3 es3.length cg3, .slice ha3 ms3.length ch3] 27)).heap[w4.heap.size]? = some (.cells #[.string ⟨#[115]⟩, .int .i64 lo2, .int .i64 nx2, .slice ga2 es2.length cg2, .slice ha2 ms2.length ch2] 27 (0, 0))) := bstay BA.out hal (Array.getElem?_eq_some_iff.1 BA.out).1
  have HRA_ : Hid (Row flY.c 3 (w7.alloc (.cells #[.string ⟨#[115]⟩, .int .i64 lo3, .int .i64 nx3, .slice ga3 es3.length cg3, .slice ha3 ms3.length ch3] 27)) (w7.alloc (.cells #[.string ⟨#[115]⟩, .int .i64 lo3, .int .i64 nx3, .slice ga3 es3.length cg3, .slice ha3 ms3.length ch3] 27)).heap.size la RE) := HRA.out.inn hal
  have HRB_ : Hid (Row flY.c 3 (w7.alloc (.cells #[.string ⟨#[115]⟩, .int .i64 lo3, .int .i64 nx3, .slice ga3 es3.length cg3, .slice ha3 ms3.length ch3] 27)) (w7.alloc (.cells #[.string ⟨#[115]⟩, .int .i64 lo3, .int .i64 nx3, .slice ga3 es3.length cg3, .slice ha3 ms3.length ch3] 27)).heap.size lb RE) := HRB.out.inn hal
  have HD_ : Hid (Dr 0 (w7.alloc (.cells #[.string ⟨#[115]⟩, .int .i64 lo3, .int .i64 nx3, .slice ga3 es3.length cg3, .slice ha3 ms3.length ch3] 27)) es3 ms3 ga3 cg3 ha3 ch3) := HD.out.below hal
  clear HC HTB HB HZ HS BS HT BT HW BW HA BA HRA HRB HD
  have HC := HC_
  have HTB := HTB_
  have HB := HB_
  have HZ := HZ_
  have HS := HS_
  have BS := BS_
  have HT := HT_
  have BT := BT_
  have HW := HW_
  have BW := BW_
  have HA := HA_
  have BA := BA_
  have HRA := HRA_
  have HRB := HRB_
  have HD := HD_
  clear HC_ HTB_ HB_ HZ_ HS_ BS_ HT_ BT_ HW_ BW_ HA_ BA_ HRA_ HRB_ HD_
  have BD : Hid ((w7.alloc (.cells #[.string ⟨#[115]⟩, .int .i64 lo3, .int .i64 nx3, .slice ga3 es3.length cg3, .slice ha3 ms3.length ch3] 27)).heap[w7.heap.size]? = some (.cells #[.string ⟨#[115]⟩, .int .i64 lo3, .int .i64 nx3, .slice ga3 es3.length cg3, .slice ha3 ms3.length ch3] 27 (0, 0))) := bnew w7 _ _
  clear hal
  have h8 := dmk.draw_Part a0 len0 cap0 _ hlen HC.out
  go_wp2_with (go_at_call 12; fail)
  refine h8.mono ?_
  rintro e w8 ⟨⟨ky, pn, rfl, hky, hpn⟩, hb8⟩
  have HC_ : Hid (dw.Code w8 w8.heap.size a0 len0) := (HC.out.below hb8 (Nat.le_refl _)).mono (Below.size hb8)
  have HTB_ : Hid (TB w8) := HTB.out.below hb8
  have HB_ : Hid (Below w.heap.size w w8) := HB.out.trans (Below.mono hb8 (Below.size HB.out))
  have HZ_ : Hid (0 < w8.heap.size) := Nat.lt_of_lt_of_le HZ.out (Below.size hb8)
  have HS_ : Hid (Dr 0 w8 es ms ga cg ha ch) := HS.out.below hb8
  have BS_ : Hid (w8.heap[w1.heap.size]? = some (.cells #[.string ⟨#[115]⟩, .int .i64 lo, .int .i64 nx, .slice ga es.length cg, .slice ha ms.length ch] 27 (0, 0))) := bstay BS.out hb8 (Array.getElem?_eq_some_iff.1 BS.out).1
  have HT_ : Hid (Im w8 es TM sa1 sc1 sb1 sd1) := HT.out.below hb8
  have BT_ : Hid (w8.heap[w2.heap.size]? = some (.cells #[.string ⟨#[115]⟩, .int .i64 lo, .int .i64 nx, .slice sa1 es.length sc1, .slice sb1 TM.length sd1] 27 (0, 0))) := bstay BT.out hb8 (Array.getElem?_eq_some_iff.1 BT.out).1
  have HW_ : Hid (Im w8 es TM sa2 sc2 sb2 sd2) := HW.out.below hb8
  have BW_ : Hid (w8.heap[w3.heap.size]? = some (.cells #[.string ⟨#[115]⟩, .int .i64 lo, .int .i64 nx, .slice sa2 es.length sc2, .slice sb2 TM.length sd2] 27 (0, 0))) := bstay BW.out hb8 (Array.getElem?_eq_some_iff.1 BW.out).1
  have HA_ : Hid (Dr 0 w8 es2 ms2 ga2 cg2 ha2 ch2) := HA.out.below hb8
  have BA_ : Hid (w8.heap[w4.heap.size]? = some (.cells #[.string ⟨#[115]⟩, .int .i64 lo2, .int .i64 nx2, .slice ga2 es2.length cg2, .slice ha2 ms2.length ch2] 27 (0, 0))) := bstay BA.out hb8 (Array.getElem?_eq_some_iff.1 BA.out).1
  have HRA_ : Hid (Row flY.c 3 w8 w8.heap.size la RE) := HRA.out.inn hb8
  have HRB_ : Hid (Row flY.c 3 w8 w8.heap.size lb RE) := HRB.out.inn hb8
  have HD_ : Hid (Dr 0 w8 es3 ms3 ga3 cg3 ha3 ch3) := HD.out.below hb8
  have BD_ : Hid (w8.heap[w7.heap.size]? = some (.cells #[.string ⟨#[115]⟩, .int .i64 lo3, .int .i64 nx3, .slice ga3 es3.length cg3, .slice ha3 ms3.length ch3] 27 (0, 0))) := bstay BD.out hb8 (Array.getElem?_eq_some_iff.1 BD.out).1
  clear HC HTB HB HZ HS BS HT BT HW BW HA BA HRA HRB HD BD
  have HC := HC_
  have HTB := HTB_
  have HB := HB_
  have HZ := HZ_
  have HS := HS_
  have BS := BS_
  have HT := HT_
  have BT := BT_
  have HW := HW_
  have BW := BW_
  have HA := HA_
  have BA := BA_
  have HRA := HRA_
  have HRB := HRB_
  have HD := HD_
  have BD := BD_
  clear HC_ HTB_ HB_ HZ_ HS_ BS_ HT_ BT_ HW_ BW_ HA_ BA_ HRA_ HRB_ HD_ BD_
  clear h8 hb8 
  have h9 := prt.impl_part ky pn w8 (by omega) HTB.out
  have HPI := part_in ky pn
  obtain ⟨pp, hpp⟩ : ∃ x, prt.part ky pn = x := ⟨_, rfl⟩
  have HPP : Hid (prt.part ky pn = pp) := hpp
  rw [hpp] at h9 HPI
  have HPI : Hid (pp = -1 ∨ (0 ≤ pp ∧ pp < pn)) := HPI
  clear hpp
  go_wp2_with (go_at_call 13; fail)
  refine h9.mono ?_
  rintro e w9 ⟨rfl, hw9⟩
  rw [hw9]
  clear hw9 w9 h9
  obtain ⟨MK, hMK⟩ : ∃ x, smk.mark ms3 nm = x := ⟨_, rfl⟩
  have x0 : ∀ N : qi.Cls w8, N.x.cell? ⟨w2.heap.size, 0, none⟩ = some (.string ⟨#[115]⟩) := fun N => bcell (bstay BT.out N.h (Array.getElem?_eq_some_iff.1 BT.out).1) rfl
  have x1 : ∀ N : qi.Cls w8, N.x.cell? ⟨w2.heap.size, 1, none⟩ = some (.int .i64 lo) := fun N => bcell (bstay BT.out N.h (Array.getElem?_eq_some_iff.1 BT.out).1) rfl
  have x2 : ∀ N : qi.Cls w8, N.x.cell? ⟨w2.heap.size, 2, none⟩ = some (.int .i64 nx) := fun N => bcell (bstay BT.out N.h (Array.getElem?_eq_some_iff.1 BT.out).1) rfl
  have x3 : ∀ N : qi.Cls w8, N.x.cell? ⟨w2.heap.size, 3, none⟩ = some (.slice sa1 es.length sc1) := fun N => bcell (bstay BT.out N.h (Array.getElem?_eq_some_iff.1 BT.out).1) rfl
  have x4 : ∀ N : qi.Cls w8, N.x.cell? ⟨w2.heap.size, 4, none⟩ = some (.slice sb1 TM.length sd1) := fun N => bcell (bstay BT.out N.h (Array.getElem?_eq_some_iff.1 BT.out).1) rfl
  have y0 : ∀ N : qi.Cls w8, N.x.cell? ⟨w3.heap.size, 0, none⟩ = some (.string ⟨#[115]⟩) := fun N => bcell (bstay BW.out N.h (Array.getElem?_eq_some_iff.1 BW.out).1) rfl
  have y1 : ∀ N : qi.Cls w8, N.x.cell? ⟨w3.heap.size, 1, none⟩ = some (.int .i64 lo) := fun N => bcell (bstay BW.out N.h (Array.getElem?_eq_some_iff.1 BW.out).1) rfl
  have y2 : ∀ N : qi.Cls w8, N.x.cell? ⟨w3.heap.size, 2, none⟩ = some (.int .i64 nx) := fun N => bcell (bstay BW.out N.h (Array.getElem?_eq_some_iff.1 BW.out).1) rfl
  have y3 : ∀ N : qi.Cls w8, N.x.cell? ⟨w3.heap.size, 3, none⟩ = some (.slice sa2 es.length sc2) := fun N => bcell (bstay BW.out N.h (Array.getElem?_eq_some_iff.1 BW.out).1) rfl
  have y4 : ∀ N : qi.Cls w8, N.x.cell? ⟨w3.heap.size, 4, none⟩ = some (.slice sb2 TM.length sd2) := fun N => bcell (bstay BW.out N.h (Array.getElem?_eq_some_iff.1 BW.out).1) rfl
  have u0 : ∀ N : qi.Cls w8, N.x.cell? ⟨w7.heap.size, 0, none⟩ = some (.string ⟨#[115]⟩) := fun N => bcell (bstay BD.out N.h (Array.getElem?_eq_some_iff.1 BD.out).1) rfl
  have u1 : ∀ N : qi.Cls w8, N.x.cell? ⟨w7.heap.size, 1, none⟩ = some (.int .i64 lo3) := fun N => bcell (bstay BD.out N.h (Array.getElem?_eq_some_iff.1 BD.out).1) rfl
  have u2 : ∀ N : qi.Cls w8, N.x.cell? ⟨w7.heap.size, 2, none⟩ = some (.int .i64 nx3) := fun N => bcell (bstay BD.out N.h (Array.getElem?_eq_some_iff.1 BD.out).1) rfl
  have u3 : ∀ N : qi.Cls w8, N.x.cell? ⟨w7.heap.size, 3, none⟩ = some (.slice ga3 es3.length cg3) := fun N => bcell (bstay BD.out N.h (Array.getElem?_eq_some_iff.1 BD.out).1) rfl
  have u4 : ∀ N : qi.Cls w8, N.x.cell? ⟨w7.heap.size, 4, none⟩ = some (.slice ha3 ms3.length ch3) := fun N => bcell (bstay BD.out N.h (Array.getElem?_eq_some_iff.1 BD.out).1) rfl
  have k1 : ∀ N : qi.Cls w8, Calls Tryd.prog 14 #[.agg #[.string ⟨#[115]⟩, .int .i64 lo, .int .i64 nx, .slice sa1 es.length sc1, .slice sb1 TM.length sd1], .agg #[.string ⟨#[115]⟩, .int .i64 lo, .int .i64 nx, .slice sa2 es.length sc2, .slice sb2 TM.length sd2]] N.x fun e w' => e = .returned (.bool true) ∧ qi.T w8 w' := fun N => (same (HT.out.below N.h) (HW.out.below N.h) HFM.out).mono fun e w' ⟨h1, h2⟩ => ⟨h1, Below.trans N.h (Below.mono h2 (Below.size N.h))⟩
  have k2' : ∀ N : qi.Cls w8, Calls Tryd.prog 15 #[.agg #[.string ⟨#[115]⟩, .int .i64 lo3, .int .i64 nx3, .slice ga3 es3.length cg3, .slice ha3 ms3.length ch3], .string nm] N.x fun e w' => e = .returned (.int .i64 MK) ∧ Below N.x.heap.size N.x w' := fun N => by rw [← hMK]; exact t_marked (lo := lo3) (nx := nx3) (Dr.im (HD.out.below N.h) (Nat.lt_of_lt_of_le HZ.out (Below.size N.h))) (HSM3.out.fit (by omega) sS_small) nm
  have k2 : ∀ N : qi.Cls w8, Calls Tryd.prog 15 #[.agg #[.string ⟨#[115]⟩, .int .i64 lo3, .int .i64 nx3, .slice ga3 es3.length cg3, .slice ha3 ms3.length ch3], .string nm] N.x fun e w' => e = .returned (.int .i64 MK) ∧ qi.T w8 w' := fun N => (k2' N).mono fun e w' ⟨h1, h2⟩ => ⟨h1, Below.trans N.h (Below.mono h2 (Below.size N.h))⟩
  have k3' : ∀ N : qi.Cls w8, Calls Tryd.prog 16 #[.agg #[.string ⟨#[115]⟩, .int .i64 lo3, .int .i64 nx3, .slice ga3 es3.length cg3, .slice ha3 ms3.length ch3], .string nm] N.x fun e w' => e = .returned (.int .i64 MK) ∧ Below N.x.heap.size N.x w' := fun N => by rw [← hMK]; exact s_marked (lo := lo3) (nx := nx3) (Dr.im (HD.out.below N.h) (Nat.lt_of_lt_of_le HZ.out (Below.size N.h))) (HSM3.out.fit (by omega) sS_small) nm
  have k3 : ∀ N : qi.Cls w8, Calls Tryd.prog 16 #[.agg #[.string ⟨#[115]⟩, .int .i64 lo3, .int .i64 nx3, .slice ga3 es3.length cg3, .slice ha3 ms3.length ch3], .string nm] N.x fun e w' => e = .returned (.int .i64 MK) ∧ qi.T w8 w' := fun N => (k3' N).mono fun e w' ⟨h1, h2⟩ => ⟨h1, Below.trans N.h (Below.mono h2 (Below.size N.h))⟩
  have k4 : ∀ N : qi.Cls w8, Calls Tryd.prog 17 #[.string ky, .int .i64 pn] N.x fun e w' => e = .returned (.int .i64 pp) ∧ qi.T w8 w' := fun N => by rw [← HPP.out]; exact (prt.spec_part ky pn N.x (by omega)).mono fun e w' ⟨h1, h2⟩ => ⟨h1, by rw [h2]; exact N.h⟩
  clear k2' k3' hMK
  go_wp2
  refine qi.region_in w8 (qi.T.refl w8) (by kernel_rfl) (by kernel_rfl) ?_
  repeat (go_big_quiet_step (first | (go_at_call 14; with_reducible refine (k1 _).mono ?_; rintro e wx ⟨rfl, hTx⟩; exact ⟨rfl, ⟨wx, hTx⟩, rfl⟩) | (go_at_call 15; with_reducible refine (k2 _).mono ?_; rintro e wx ⟨rfl, hTx⟩; exact ⟨rfl, ⟨wx, hTx⟩, rfl⟩) | (go_at_call 16; with_reducible refine (k3 _).mono ?_; rintro e wx ⟨rfl, hTx⟩; exact ⟨rfl, ⟨wx, hTx⟩, rfl⟩) | (go_at_call 17; with_reducible refine (k4 _).mono ?_; rintro e wx ⟨rfl, hTx⟩; exact ⟨rfl, ⟨wx, hTx⟩, rfl⟩)))
  refine wpQuiet_nil ?_
  rintro _ ⟨N, rfl⟩
  have hN := N.h
  generalize N.x = v1 at hN ⊢
  clear N k1 k2 k3 k4 x0 x1 x2 x3 x4 y0 y1 y2 y3 y4 u0 u1 u2 u3 u4
  have hbN : Below w8.heap.size w8 v1 := hN
  have HC_ : Hid (dw.Code v1 v1.heap.size a0 len0) := (HC.out.below hbN (Nat.le_refl _)).mono (Below.size hbN)
  have HTB_ : Hid (TB v1) := HTB.out.below hbN
  have HB_ : Hid (Below w.heap.size w v1) := HB.out.trans (Below.mono hbN (Below.size HB.out))
  have HZ_ : Hid (0 < v1.heap.size) := Nat.lt_of_lt_of_le HZ.out (Below.size hbN)
  have HS_ : Hid (Dr 0 v1 es ms ga cg ha ch) := HS.out.below hbN
  have BS_ : Hid (v1.heap[w1.heap.size]? = some (.cells #[.string ⟨#[115]⟩, .int .i64 lo, .int .i64 nx, .slice ga es.length cg, .slice ha ms.length ch] 27 (0, 0))) := bstay BS.out hbN (Array.getElem?_eq_some_iff.1 BS.out).1
  have HT_ : Hid (Im v1 es TM sa1 sc1 sb1 sd1) := HT.out.below hbN
  have BT_ : Hid (v1.heap[w2.heap.size]? = some (.cells #[.string ⟨#[115]⟩, .int .i64 lo, .int .i64 nx, .slice sa1 es.length sc1, .slice sb1 TM.length sd1] 27 (0, 0))) := bstay BT.out hbN (Array.getElem?_eq_some_iff.1 BT.out).1
  have HW_ : Hid (Im v1 es TM sa2 sc2 sb2 sd2) := HW.out.below hbN
  have BW_ : Hid (v1.heap[w3.heap.size]? = some (.cells #[.string ⟨#[115]⟩, .int .i64 lo, .int .i64 nx, .slice sa2 es.length sc2, .slice sb2 TM.length sd2] 27 (0, 0))) := bstay BW.out hbN (Array.getElem?_eq_some_iff.1 BW.out).1
  have HA_ : Hid (Dr 0 v1 es2 ms2 ga2 cg2 ha2 ch2) := HA.out.below hbN
  have BA_ : Hid (v1.heap[w4.heap.size]? = some (.cells #[.string ⟨#[115]⟩, .int .i64 lo2, .int .i64 nx2, .slice ga2 es2.length cg2, .slice ha2 ms2.length ch2] 27 (0, 0))) := bstay BA.out hbN (Array.getElem?_eq_some_iff.1 BA.out).1
  have HRA_ : Hid (Row flY.c 3 v1 v1.heap.size la RE) := HRA.out.inn hbN
  have HRB_ : Hid (Row flY.c 3 v1 v1.heap.size lb RE) := HRB.out.inn hbN
  have HD_ : Hid (Dr 0 v1 es3 ms3 ga3 cg3 ha3 ch3) := HD.out.below hbN
  have BD_ : Hid (v1.heap[w7.heap.size]? = some (.cells #[.string ⟨#[115]⟩, .int .i64 lo3, .int .i64 nx3, .slice ga3 es3.length cg3, .slice ha3 ms3.length ch3] 27 (0, 0))) := bstay BD.out hbN (Array.getElem?_eq_some_iff.1 BD.out).1
  clear HC HTB HB HZ HS BS HT BT HW BW HA BA HRA HRB HD BD
  have HC := HC_
  have HTB := HTB_
  have HB := HB_
  have HZ := HZ_
  have HS := HS_
  have BS := BS_
  have HT := HT_
  have BT := BT_
  have HW := HW_
  have BW := BW_
  have HA := HA_
  have BA := BA_
  have HRA := HRA_
  have HRB := HRB_
  have HD := HD_
  have BD := BD_
  clear HC_ HTB_ HB_ HZ_ HS_ BS_ HT_ BT_ HW_ BW_ HA_ BA_ HRA_ HRB_ HD_ BD_
  clear hN hbN
  have HRL : Hid (RE.length ≤ 400) := by rw [← HRE.out]; exact mpu.read_few
  have hrl := HRL.out
  go_wp2
  go_loopw [20] (fun x wr => ∃ k : Nat, k ≤ RE.length ∧ x = .int .i64 k ∧ Hid (Below v1.heap.size v1 wr)) (fun x _ => RE.length - (intOf x).toNat)
  case' atStart => exact ⟨0, Nat.zero_le _, rfl, by first | exact Below.refl _ _ | exact (Below.refl _ _).drew⟩
  case' round =>
    obtain ⟨k, hk, rfl, hbr⟩ := hrel
    by_cases hkl : k < RE.length
    case' pos =>
      have i2 : (k : Int) < (RE.length : Int) := by omega
      have HG : Hid (RE[k]? = some RE[k]) := List.getElem?_eq_getElem hkl
      obtain ⟨⟨pk, pv, pg⟩, he⟩ : ∃ e, RE[k] = e := ⟨_, rfl⟩
      rw [he] at HG
      have hrk : (srd.read ⟨#[115]⟩ lo2 nx2 es2 ms2 fr mo)[k]? = some ⟨pk, pv, pg⟩ := by rw [HRE.out]; exact HG.out
      have hat := mpu.read_at hrk
      clear hrk
      simp only at hat
      have hnd : decide (pk < fr) = false := decide_eq_false (by omega)
      obtain ⟨g1, o1, rfl, hlt1, hcl1⟩ := HRA.out.resolve_left (by rintro rfl; simp at hkl)
      obtain ⟨g2, o2, rfl, hlt2, hcl2⟩ := HRB.out.resolve_left (by rintro rfl; simp at hkl)
      have HBR := hbr
      have go1 : ∀ (N : qi.Cls wr) (o : Nat) (v : Value), v1.cell? ⟨g1, o, none⟩ = some v → N.x.cell? ⟨g1, o, none⟩ = some v := fun N o v hv => ((HBR.out.trans (Below.mono N.h (Below.size HBR.out))).cell (p := ⟨g1, o, none⟩) hlt1).trans hv
      have go2 : ∀ (N : qi.Cls wr) (o : Nat) (v : Value), v1.cell? ⟨g2, o, none⟩ = some v → N.x.cell? ⟨g2, o, none⟩ = some v := fun N o v hv => ((HBR.out.trans (Below.mono N.h (Below.size HBR.out))).cell (p := ⟨g2, o, none⟩) hlt2).trans hv
      have p0 : ∀ N : qi.Cls wr, N.x.cell? ⟨g1, o1 + k * 3, none⟩ = some (.int .i64 pk) := fun N => go1 N _ _ (hcl1 k _ HG.out 0 _ rfl)
      have p1 : ∀ N : qi.Cls wr, N.x.cell? ⟨g1, o1 + k * 3 + 1, none⟩ = some (.int .i64 pv) := fun N => go1 N _ _ (hcl1 k _ HG.out 1 _ rfl)
      have p2 : ∀ N : qi.Cls wr, N.x.cell? ⟨g1, o1 + k * 3 + 2, none⟩ = some (.string pg) := fun N => go1 N _ _ (hcl1 k _ HG.out 2 _ rfl)
      have q0 : ∀ N : qi.Cls wr, N.x.cell? ⟨g2, o2 + k * 3, none⟩ = some (.int .i64 pk) := fun N => go2 N _ _ (hcl2 k _ HG.out 0 _ rfl)
      have q1 : ∀ N : qi.Cls wr, N.x.cell? ⟨g2, o2 + k * 3 + 1, none⟩ = some (.int .i64 pv) := fun N => go2 N _ _ (hcl2 k _ HG.out 1 _ rfl)
      have q2 : ∀ N : qi.Cls wr, N.x.cell? ⟨g2, o2 + k * 3 + 2, none⟩ = some (.string pg) := fun N => go2 N _ _ (hcl2 k _ HG.out 2 _ rfl)
      have hgd := @eeq.guard_run
      have hrn := eeq.neq_run pk pv pk pv pg pg
      rw [eeq.same_iff.2 rfl] at hrn
      by_cases hk0 : k = 0
      · subst hk0
        simp only [Nat.zero_mul, Nat.add_zero] at p0 p1 p2 q0 q1 q2
        clear he hcl1 hcl2 go1 go2 hat hbr
        go_wp2
        refine qi.region_in wr (qi.T.refl wr) (by kernel_rfl) (by kernel_rfl) ?_
        repeat (go_big_quiet_step (fail))
        refine wpQuiet_nil ?_
        rintro _ ⟨N, rfl⟩
        have hN := N.h
        generalize N.x = vx at hN ⊢
        have HBN : Hid (Below v1.heap.size v1 vx) := HBR.out.trans (Below.mono hN (Below.size HBR.out))
        clear N hN p0 p1 p2 q0 q1 q2
        go_wp2
        go_roundw
        case rel => exact ⟨0 + 1, by omega, by go_num, HBN⟩
        case measure => simp [intOf]; omega
      · obtain ⟨m, hm⟩ : ∃ m, k = m + 1 := ⟨k - 1, by omega⟩
        have g9 : RE[m]? = some RE[m] := List.getElem?_eq_getElem (by omega)
        obtain ⟨⟨mk, mv, mg⟩, he1⟩ : ∃ e, RE[m] = e := ⟨_, rfl⟩
        rw [he1] at g9
        have hrm : (srd.read ⟨#[115]⟩ lo2 nx2 es2 ms2 fr mo)[m]? = some ⟨mk, mv, mg⟩ := by rw [HRE.out]; exact g9
        have hat1 := mpu.read_at hrm
        clear hrm
        simp only at hat1
        have r0 : ∀ N : qi.Cls wr, N.x.cell? ⟨g1, o1 + (k - 1) * 3, none⟩ = some (.int .i64 mk) := fun N => by rw [show k - 1 = m by omega]; exact go1 N _ _ (hcl1 m _ g9 0 _ rfl)
        have hpk : mk + 1 = pk := by omega
        have hw1 : wrap64 (mk + 1) = pk := by rw [hpk]; unfold wrap64; omega
        have hw2 : wrap64 ((k : Int) - 1) = (m : Int) := by rw [show ((k : Int) - 1) = (m : Int) by omega]; unfold wrap64; omega
        have j2 : (m : Int) < (RE.length : Int) := by omega
        have j3 : 0 < k := by omega
        clear he hcl1 hcl2 go1 go2 hat hat1 he1 g9 hbr hm hpk hk0
        go_wp2
        refine qi.region_in wr (qi.T.refl wr) (by kernel_rfl) (by kernel_rfl) ?_
        repeat (go_big_quiet_step (fail))
        refine wpQuiet_nil ?_
        rintro _ ⟨N, rfl⟩
        have hN := N.h
        generalize N.x = vx at hN ⊢
        have HBN : Hid (Below v1.heap.size v1 vx) := HBR.out.trans (Below.mono hN (Below.size HBR.out))
        clear N hN p0 p1 p2 q0 q1 q2 r0
        go_wp2
        clear hw1 hw2 j2 j3
        go_roundw
        case rel => exact ⟨k + 1, by omega, by go_num, HBN⟩
        case measure => simp [intOf]; omega
    case' neg =>
      obtain rfl : k = RE.length := by omega
      have i2 : ¬ (RE.length : Int) < (RE.length : Int) := by omega
      have hbw := hbr.out
      clear hbr hkl
      obtain ⟨v2, hv2⟩ : ∃ v, v = wr := ⟨_, rfl⟩
      subst hv2
      have HC_ : Hid (dw.Code v2 v2.heap.size a0 len0) := (HC.out.below hbw (Nat.le_refl _)).mono (Below.size hbw)
      have HTB_ : Hid (TB v2) := HTB.out.below hbw
      have HB_ : Hid (Below w.heap.size w v2) := HB.out.trans (Below.mono hbw (Below.size HB.out))
      have HZ_ : Hid (0 < v2.heap.size) := Nat.lt_of_lt_of_le HZ.out (Below.size hbw)
      have HS_ : Hid (Dr 0 v2 es ms ga cg ha ch) := HS.out.below hbw
      have BS_ : Hid (v2.heap[w1.heap.size]? = some (.cells #[.string ⟨#[115]⟩, .int .i64 lo, .int .i64 nx, .slice ga es.length cg, .slice ha ms.length ch] 27 (0, 0))) := bstay BS.out hbw (Array.getElem?_eq_some_iff.1 BS.out).1
      have HT_ : Hid (Im v2 es TM sa1 sc1 sb1 sd1) := HT.out.below hbw
      have BT_ : Hid (v2.heap[w2.heap.size]? = some (.cells #[.string ⟨#[115]⟩, .int .i64 lo, .int .i64 nx, .slice sa1 es.length sc1, .slice sb1 TM.length sd1] 27 (0, 0))) := bstay BT.out hbw (Array.getElem?_eq_some_iff.1 BT.out).1
      have HW_ : Hid (Im v2 es TM sa2 sc2 sb2 sd2) := HW.out.below hbw
      have BW_ : Hid (v2.heap[w3.heap.size]? = some (.cells #[.string ⟨#[115]⟩, .int .i64 lo, .int .i64 nx, .slice sa2 es.length sc2, .slice sb2 TM.length sd2] 27 (0, 0))) := bstay BW.out hbw (Array.getElem?_eq_some_iff.1 BW.out).1
      have HA_ : Hid (Dr 0 v2 es2 ms2 ga2 cg2 ha2 ch2) := HA.out.below hbw
      have BA_ : Hid (v2.heap[w4.heap.size]? = some (.cells #[.string ⟨#[115]⟩, .int .i64 lo2, .int .i64 nx2, .slice ga2 es2.length cg2, .slice ha2 ms2.length ch2] 27 (0, 0))) := bstay BA.out hbw (Array.getElem?_eq_some_iff.1 BA.out).1
      have HRA_ : Hid (Row flY.c 3 v2 v2.heap.size la RE) := HRA.out.inn hbw
      have HRB_ : Hid (Row flY.c 3 v2 v2.heap.size lb RE) := HRB.out.inn hbw
      have HD_ : Hid (Dr 0 v2 es3 ms3 ga3 cg3 ha3 ch3) := HD.out.below hbw
      have BD_ : Hid (v2.heap[w7.heap.size]? = some (.cells #[.string ⟨#[115]⟩, .int .i64 lo3, .int .i64 nx3, .slice ga3 es3.length cg3, .slice ha3 ms3.length ch3] 27 (0, 0))) := bstay BD.out hbw (Array.getElem?_eq_some_iff.1 BD.out).1
      clear HC HTB HB HZ HS BS HT BT HW BW HA BA HRA HRB HD BD
      have HC := HC_
      have HTB := HTB_
      have HB := HB_
      have HZ := HZ_
      have HS := HS_
      have BS := BS_
      have HT := HT_
      have BT := BT_
      have HW := HW_
      have BW := BW_
      have HA := HA_
      have BA := BA_
      have HRA := HRA_
      have HRB := HRB_
      have HD := HD_
      have BD := BD_
      clear HC_ HTB_ HB_ HZ_ HS_ BS_ HT_ BT_ HW_ BW_ HA_ BA_ HRA_ HRB_ HD_ BD_
      clear hbw hk
      have s0 : v2.cell? ⟨w1.heap.size, 0, none⟩ = some (.string ⟨#[115]⟩) := bcell BS.out rfl
      have s1 : v2.cell? ⟨w1.heap.size, 1, none⟩ = some (.int .i64 lo) := bcell BS.out rfl
      have s2 : v2.cell? ⟨w1.heap.size, 2, none⟩ = some (.int .i64 nx) := bcell BS.out rfl
      have s3 : v2.cell? ⟨w1.heap.size, 3, none⟩ = some (.slice ga es.length cg) := bcell BS.out rfl
      have s4 : v2.cell? ⟨w1.heap.size, 4, none⟩ = some (.slice ha ms.length ch) := bcell BS.out rfl
      go_wp2
      clear s0 s1 s2 s3 s4
      obtain ⟨gq, hq, nq1, nq2, rq1, rq2, _⟩ := HS.out.use HZ.out
      have HNA : Hid (0 < ms.length → ha = some ⟨hq, 0, none⟩) := nq2.at
      have HRE2 : Hid (rr.RE v2 hq ms) := rq2
      have HML : Hid (ms.length ≤ 1000) := by have := HSM.out.ml; unfold Hid; omega
      have hml := HML.out
      clear nq1 nq2 rq1 rq2
      cases ft
      case' true =>
        go_loopw [21] (fun x wr => ∃ k : Nat, k ≤ ms.length ∧ x = .int .i64 k ∧ Hid (Below v2.heap.size v2 wr)) (fun x _ => ms.length - (intOf x).toNat)
        case' atStart => exact ⟨0, Nat.zero_le _, rfl, by first | exact Below.refl _ _ | exact (Below.refl _ _).drew⟩
        case' round =>
          obtain ⟨k, hk, rfl, hbr⟩ := hrel
          have hBSr := bstay BS.out hbr.out (Array.getElem?_eq_some_iff.1 BS.out).1
          by_cases hkl : k < ms.length
          case' pos =>
            have i2 : (k : Int) < (ms.length : Int) := by omega
            have HG : Hid (ms[k]? = some ms[k]) := List.getElem?_eq_getElem hkl
            obtain ⟨⟨mn, mo⟩, he⟩ : ∃ e, ms[k] = e := ⟨_, rfl⟩
            rw [he] at HG
            clear he
            have hqa : ha = some ⟨hq, 0, none⟩ := HNA.out (by omega)
            have HBR := hbr
            have s4 : wr.cell? ⟨w1.heap.size, 4, none⟩ = some (.slice ha ms.length ch) := bcell hBSr rfl
            have q4 : ∀ N : qi.Cls wr, N.x.cell? ⟨w1.heap.size, 4, none⟩ = some (.slice ha ms.length ch) := fun N => bcell (bstay BS.out (HBR.out.trans (Below.mono N.h (Below.size HBR.out))) (Array.getElem?_eq_some_iff.1 BS.out).1) rfl
            have x0 : ∀ N : qi.Cls wr, N.x.cell? ⟨w2.heap.size, 0, none⟩ = some (.string ⟨#[115]⟩) := fun N => bcell (bstay BT.out (HBR.out.trans (Below.mono N.h (Below.size HBR.out))) (Array.getElem?_eq_some_iff.1 BT.out).1) rfl
            have x1 : ∀ N : qi.Cls wr, N.x.cell? ⟨w2.heap.size, 1, none⟩ = some (.int .i64 lo) := fun N => bcell (bstay BT.out (HBR.out.trans (Below.mono N.h (Below.size HBR.out))) (Array.getElem?_eq_some_iff.1 BT.out).1) rfl
            have x2 : ∀ N : qi.Cls wr, N.x.cell? ⟨w2.heap.size, 2, none⟩ = some (.int .i64 nx) := fun N => bcell (bstay BT.out (HBR.out.trans (Below.mono N.h (Below.size HBR.out))) (Array.getElem?_eq_some_iff.1 BT.out).1) rfl
            have x3 : ∀ N : qi.Cls wr, N.x.cell? ⟨w2.heap.size, 3, none⟩ = some (.slice sa1 es.length sc1) := fun N => bcell (bstay BT.out (HBR.out.trans (Below.mono N.h (Below.size HBR.out))) (Array.getElem?_eq_some_iff.1 BT.out).1) rfl
            have x4 : ∀ N : qi.Cls wr, N.x.cell? ⟨w2.heap.size, 4, none⟩ = some (.slice sb1 TM.length sd1) := fun N => bcell (bstay BT.out (HBR.out.trans (Below.mono N.h (Below.size HBR.out))) (Array.getElem?_eq_some_iff.1 BT.out).1) rfl
            have a0 : ∀ N : qi.Cls wr, N.x.cell? ⟨hq, k * 2, none⟩ = some (.string mn) := fun N => ((HRE2.out.below (HBR.out.trans (Below.mono N.h (Below.size HBR.out)))).2 k _ HG.out).1
            have a1 : ∀ N : qi.Cls wr, N.x.cell? ⟨hq, k * 2 + 1, none⟩ = some (.int .i64 mo) := fun N => ((HRE2.out.below (HBR.out.trans (Below.mono N.h (Below.size HBR.out)))).2 k _ HG.out).2
            have b0 : wr.cell? ⟨hq, k * 2, none⟩ = some (.string mn) := ((HRE2.out.below HBR.out).2 k _ HG.out).1
            clear hBSr hbr
            by_cases heq : mn = rd
            case' pos =>
              subst heq
              have hqe : (mn.toList == mn.toList) = true := by simp
            case' neg =>
              have hqe : (mn.toList == rd.toList) = false := by rw [beq_eq_false_iff_ne]; exact fun h => heq (mpu.tl_of h)
              have hmk : smk.mark TM mn = mo := by rw [← HTM.out]; exact mpu.mark_other HFT.out (List.mem_of_getElem? HG.out) heq
              have k1 : ∀ N : qi.Cls wr, Calls Tryd.prog 15 #[.agg #[.string ⟨#[115]⟩, .int .i64 lo, .int .i64 nx, .slice sa1 es.length sc1, .slice sb1 TM.length sd1], .string mn] N.x fun e w' => e = .returned (.int .i64 mo) ∧ qi.T wr w' := fun N => by rw [← hmk]; exact (t_marked (lo := lo) (nx := nx) (HT.out.below (HBR.out.trans (Below.mono N.h (Below.size HBR.out)))) HFM.out mn).mono fun e w' ⟨h1, h2⟩ => ⟨h1, Below.trans N.h (Below.mono h2 (Below.size N.h))⟩
              clear hmk
            all_goals
              go_wp2
              refine qi.region_in wr (qi.T.refl wr) (by kernel_rfl) (by kernel_rfl) ?_
              repeat (go_big_quiet_step (first | (go_at_call 15; with_reducible refine (k1 _).mono ?_; rintro e wx ⟨rfl, hTx⟩; exact ⟨rfl, ⟨wx, hTx⟩, rfl⟩)))
              refine wpQuiet_nil ?_
              rintro _ ⟨N, rfl⟩
              have hN := N.h
              generalize N.x = vx at hN ⊢
              have HBN : Hid (Below v2.heap.size v2 vx) := HBR.out.trans (Below.mono hN (Below.size HBR.out))
              clear N hN q4 x0 x1 x2 x3 x4 a0 a1 b0 s4
              try clear k1
              go_wp2
              try rw [← hqa]
              go_roundw
              case rel => exact ⟨k + 1, by omega, by go_num, HBN⟩
              case measure => simp [intOf]; omega
          case' neg =>
            obtain rfl : k = ms.length := by omega
            have i2 : ¬ (ms.length : Int) < (ms.length : Int) := by omega
            have s4 : wr.cell? ⟨w1.heap.size, 4, none⟩ = some (.slice ha ms.length ch) := bcell hBSr rfl
            have hbw := hbr.out
            clear hbr hBSr hkl hk
            obtain ⟨v3, hv3⟩ : ∃ v, v = wr := ⟨_, rfl⟩
            subst hv3
            have HC_ : Hid (dw.Code v3 v3.heap.size a0 len0) := (HC.out.below hbw (Nat.le_refl _)).mono (Below.size hbw)
            have HTB_ : Hid (TB v3) := HTB.out.below hbw
            have HB_ : Hid (Below w.heap.size w v3) := HB.out.trans (Below.mono hbw (Below.size HB.out))
            have HZ_ : Hid (0 < v3.heap.size) := Nat.lt_of_lt_of_le HZ.out (Below.size hbw)
            have HS_ : Hid (Dr 0 v3 es ms ga cg ha ch) := HS.out.below hbw
            have BS_ : Hid (v3.heap[w1.heap.size]? = some (.cells #[.string ⟨#[115]⟩, .int .i64 lo, .int .i64 nx, .slice ga es.length cg, .slice ha ms.length ch] 27 (0, 0))) := bstay BS.out hbw (Array.getElem?_eq_some_iff.1 BS.out).1
            have HT_ : Hid (Im v3 es TM sa1 sc1 sb1 sd1) := HT.out.below hbw
            have BT_ : Hid (v3.heap[w2.heap.size]? = some (.cells #[.string ⟨#[115]⟩, .int .i64 lo, .int .i64 nx, .slice sa1 es.length sc1, .slice sb1 TM.length sd1] 27 (0, 0))) := bstay BT.out hbw (Array.getElem?_eq_some_iff.1 BT.out).1
            have HW_ : Hid (Im v3 es TM sa2 sc2 sb2 sd2) := HW.out.below hbw
            have BW_ : Hid (v3.heap[w3.heap.size]? = some (.cells #[.string ⟨#[115]⟩, .int .i64 lo, .int .i64 nx, .slice sa2 es.length sc2, .slice sb2 TM.length sd2] 27 (0, 0))) := bstay BW.out hbw (Array.getElem?_eq_some_iff.1 BW.out).1
            have HA_ : Hid (Dr 0 v3 es2 ms2 ga2 cg2 ha2 ch2) := HA.out.below hbw
            have BA_ : Hid (v3.heap[w4.heap.size]? = some (.cells #[.string ⟨#[115]⟩, .int .i64 lo2, .int .i64 nx2, .slice ga2 es2.length cg2, .slice ha2 ms2.length ch2] 27 (0, 0))) := bstay BA.out hbw (Array.getElem?_eq_some_iff.1 BA.out).1
            have HRA_ : Hid (Row flY.c 3 v3 v3.heap.size la RE) := HRA.out.inn hbw
            have HRB_ : Hid (Row flY.c 3 v3 v3.heap.size lb RE) := HRB.out.inn hbw
            have HD_ : Hid (Dr 0 v3 es3 ms3 ga3 cg3 ha3 ch3) := HD.out.below hbw
            have BD_ : Hid (v3.heap[w7.heap.size]? = some (.cells #[.string ⟨#[115]⟩, .int .i64 lo3, .int .i64 nx3, .slice ga3 es3.length cg3, .slice ha3 ms3.length ch3] 27 (0, 0))) := bstay BD.out hbw (Array.getElem?_eq_some_iff.1 BD.out).1
            clear HC HTB HB HZ HS BS HT BT HW BW HA BA HRA HRB HD BD
            have HC := HC_
            have HTB := HTB_
            have HB := HB_
            have HZ := HZ_
            have HS := HS_
            have BS := BS_
            have HT := HT_
            have BT := BT_
            have HW := HW_
            have BW := BW_
            have HA := HA_
            have BA := BA_
            have HRA := HRA_
            have HRB := HRB_
            have HD := HD_
            have BD := BD_
            clear HC_ HTB_ HB_ HZ_ HS_ BS_ HT_ BT_ HW_ BW_ HA_ BA_ HRA_ HRB_ HD_ BD_
            clear hbw HNA HRE2 HML hml
            have HPR : Hid (smk.mark TM rd = o) := by unfold Hid; rw [← HTM.out]; exact mpu.mark_own HFT.out
            have h9 : Calls Tryd.prog 15 #[.agg #[.string ⟨#[115]⟩, .int .i64 lo, .int .i64 nx, .slice sa1 es.length sc1, .slice sb1 TM.length sd1], .string rd] v3 fun e w' => e = .returned (.int .i64 o) ∧ Below v3.heap.size v3 w' := by rw [← HPR.out]; exact t_marked (lo := lo) (nx := nx) HT.out HFM.out rd
            have x0 : v3.cell? ⟨w2.heap.size, 0, none⟩ = some (.string ⟨#[115]⟩) := bcell BT.out rfl
            have x1 : v3.cell? ⟨w2.heap.size, 1, none⟩ = some (.int .i64 lo) := bcell BT.out rfl
            have x2 : v3.cell? ⟨w2.heap.size, 2, none⟩ = some (.int .i64 nx) := bcell BT.out rfl
            have x3 : v3.cell? ⟨w2.heap.size, 3, none⟩ = some (.slice sa1 es.length sc1) := bcell BT.out rfl
            have x4 : v3.cell? ⟨w2.heap.size, 4, none⟩ = some (.slice sb1 TM.length sd1) := bcell BT.out rfl
            have y0 : v3.cell? ⟨w1.heap.size, 0, none⟩ = some (.string ⟨#[115]⟩) := bcell BS.out rfl
            have y1 : v3.cell? ⟨w1.heap.size, 1, none⟩ = some (.int .i64 lo) := bcell BS.out rfl
            have y2 : v3.cell? ⟨w1.heap.size, 2, none⟩ = some (.int .i64 nx) := bcell BS.out rfl
            have y3 : v3.cell? ⟨w1.heap.size, 3, none⟩ = some (.slice ga es.length cg) := bcell BS.out rfl
            have y4 : v3.cell? ⟨w1.heap.size, 4, none⟩ = some (.slice ha ms.length ch) := bcell BS.out rfl
            have hrl2 : (RE.length : Int) ≤ 1000 := by omega
            rcases HPI.out with hpp | ⟨hp0, hp1⟩
            · subst hpp
              try clear i2
              go_wp2_with (go_at_call 15; fail)
              all_goals
                refine h9.mono ?_
                rintro e v4 ⟨rfl, hb9⟩
                have HBF : Hid (Below w.heap.size w v4) := HB.out.trans (Below.mono hb9 (Below.size HB.out))
                clear h9 hb9 x0 x1 x2 x3 x4 y0 y1 y2 y3 y4
                go_wp2
                go_ret
                exact ⟨rfl, HBF.out⟩
            · have hp2 : (pp == -1) = false := by simp; omega
              have hp3 : ¬ pp = -1 := by omega
              try clear i2
              go_wp2_with (go_at_call 15; fail)
              all_goals
                refine h9.mono ?_
                rintro e v4 ⟨rfl, hb9⟩
                have HBF : Hid (Below w.heap.size w v4) := HB.out.trans (Below.mono hb9 (Below.size HB.out))
                clear h9 hb9 x0 x1 x2 x3 x4 y0 y1 y2 y3 y4
                go_wp2
                go_ret
                exact ⟨rfl, HBF.out⟩
      case' false =>
        go_loopw [21] (fun x wr => x = .int .i64 (0 : Nat) ∧ Hid (Below v2.heap.size v2 wr)) (fun _ _ => 0)
        case' atStart => exact ⟨rfl, by first | exact Below.refl _ _ | exact (Below.refl _ _).drew⟩
        case' round =>
          obtain ⟨rfl, hbr⟩ := hrel
          have hBSr := bstay BS.out hbr.out (Array.getElem?_eq_some_iff.1 BS.out).1
          have s4 : wr.cell? ⟨w1.heap.size, 4, none⟩ = some (.slice ha ms.length ch) := bcell hBSr rfl
          have hbw := hbr.out
          clear hbr hBSr
          obtain ⟨v3, hv3⟩ : ∃ v, v = wr := ⟨_, rfl⟩
          subst hv3
          have HC_ : Hid (dw.Code v3 v3.heap.size a0 len0) := (HC.out.below hbw (Nat.le_refl _)).mono (Below.size hbw)
          have HTB_ : Hid (TB v3) := HTB.out.below hbw
          have HB_ : Hid (Below w.heap.size w v3) := HB.out.trans (Below.mono hbw (Below.size HB.out))
          have HZ_ : Hid (0 < v3.heap.size) := Nat.lt_of_lt_of_le HZ.out (Below.size hbw)
          have HS_ : Hid (Dr 0 v3 es ms ga cg ha ch) := HS.out.below hbw
          have BS_ : Hid (v3.heap[w1.heap.size]? = some (.cells #[.string ⟨#[115]⟩, .int .i64 lo, .int .i64 nx, .slice ga es.length cg, .slice ha ms.length ch] 27 (0, 0))) := bstay BS.out hbw (Array.getElem?_eq_some_iff.1 BS.out).1
          have HT_ : Hid (Im v3 es TM sa1 sc1 sb1 sd1) := HT.out.below hbw
          have BT_ : Hid (v3.heap[w2.heap.size]? = some (.cells #[.string ⟨#[115]⟩, .int .i64 lo, .int .i64 nx, .slice sa1 es.length sc1, .slice sb1 TM.length sd1] 27 (0, 0))) := bstay BT.out hbw (Array.getElem?_eq_some_iff.1 BT.out).1
          have HW_ : Hid (Im v3 es TM sa2 sc2 sb2 sd2) := HW.out.below hbw
          have BW_ : Hid (v3.heap[w3.heap.size]? = some (.cells #[.string ⟨#[115]⟩, .int .i64 lo, .int .i64 nx, .slice sa2 es.length sc2, .slice sb2 TM.length sd2] 27 (0, 0))) := bstay BW.out hbw (Array.getElem?_eq_some_iff.1 BW.out).1
          have HA_ : Hid (Dr 0 v3 es2 ms2 ga2 cg2 ha2 ch2) := HA.out.below hbw
          have BA_ : Hid (v3.heap[w4.heap.size]? = some (.cells #[.string ⟨#[115]⟩, .int .i64 lo2, .int .i64 nx2, .slice ga2 es2.length cg2, .slice ha2 ms2.length ch2] 27 (0, 0))) := bstay BA.out hbw (Array.getElem?_eq_some_iff.1 BA.out).1
          have HRA_ : Hid (Row flY.c 3 v3 v3.heap.size la RE) := HRA.out.inn hbw
          have HRB_ : Hid (Row flY.c 3 v3 v3.heap.size lb RE) := HRB.out.inn hbw
          have HD_ : Hid (Dr 0 v3 es3 ms3 ga3 cg3 ha3 ch3) := HD.out.below hbw
          have BD_ : Hid (v3.heap[w7.heap.size]? = some (.cells #[.string ⟨#[115]⟩, .int .i64 lo3, .int .i64 nx3, .slice ga3 es3.length cg3, .slice ha3 ms3.length ch3] 27 (0, 0))) := bstay BD.out hbw (Array.getElem?_eq_some_iff.1 BD.out).1
          clear HC HTB HB HZ HS BS HT BT HW BW HA BA HRA HRB HD BD
          have HC := HC_
          have HTB := HTB_
          have HB := HB_
          have HZ := HZ_
          have HS := HS_
          have BS := BS_
          have HT := HT_
          have BT := BT_
          have HW := HW_
          have BW := BW_
          have HA := HA_
          have BA := BA_
          have HRA := HRA_
          have HRB := HRB_
          have HD := HD_
          have BD := BD_
          clear HC_ HTB_ HB_ HZ_ HS_ BS_ HT_ BT_ HW_ BW_ HA_ BA_ HRA_ HRB_ HD_ BD_
          clear hbw HNA HRE2 HML hml
          have HPR : Hid (TM = ms) := by unfold Hid; rw [← HTM.out]; exact mpu.mark_no HFT.out
          have h9 : Calls Tryd.prog 14 #[.agg #[.string ⟨#[115]⟩, .int .i64 lo, .int .i64 nx, .slice sa1 es.length sc1, .slice sb1 TM.length sd1], .agg #[.string ⟨#[115]⟩, .int .i64 lo, .int .i64 nx, .slice ga es.length cg, .slice ha ms.length ch]] v3 fun e w' => e = .returned (.bool true) ∧ Below v3.heap.size v3 w' := by
                      have e := HPR.out
                      subst e
                      exact same (lo := lo) (nx := nx) HT.out (Dr.im HS.out HZ.out) HFM.out
          have x0 : v3.cell? ⟨w2.heap.size, 0, none⟩ = some (.string ⟨#[115]⟩) := bcell BT.out rfl
          have x1 : v3.cell? ⟨w2.heap.size, 1, none⟩ = some (.int .i64 lo) := bcell BT.out rfl
          have x2 : v3.cell? ⟨w2.heap.size, 2, none⟩ = some (.int .i64 nx) := bcell BT.out rfl
          have x3 : v3.cell? ⟨w2.heap.size, 3, none⟩ = some (.slice sa1 es.length sc1) := bcell BT.out rfl
          have x4 : v3.cell? ⟨w2.heap.size, 4, none⟩ = some (.slice sb1 TM.length sd1) := bcell BT.out rfl
          have y0 : v3.cell? ⟨w1.heap.size, 0, none⟩ = some (.string ⟨#[115]⟩) := bcell BS.out rfl
          have y1 : v3.cell? ⟨w1.heap.size, 1, none⟩ = some (.int .i64 lo) := bcell BS.out rfl
          have y2 : v3.cell? ⟨w1.heap.size, 2, none⟩ = some (.int .i64 nx) := bcell BS.out rfl
          have y3 : v3.cell? ⟨w1.heap.size, 3, none⟩ = some (.slice ga es.length cg) := bcell BS.out rfl
          have y4 : v3.cell? ⟨w1.heap.size, 4, none⟩ = some (.slice ha ms.length ch) := bcell BS.out rfl
          have hrl2 : (RE.length : Int) ≤ 1000 := by omega
          rcases HPI.out with hpp | ⟨hp0, hp1⟩
          · subst hpp
            try clear i2
            go_wp2_with (go_at_call 14; fail)
            all_goals
              refine h9.mono ?_
              rintro e v4 ⟨rfl, hb9⟩
              have HBF : Hid (Below w.heap.size w v4) := HB.out.trans (Below.mono hb9 (Below.size HB.out))
              clear h9 hb9 x0 x1 x2 x3 x4 y0 y1 y2 y3 y4
              go_wp2
              go_ret
              exact ⟨rfl, HBF.out⟩
          · have hp2 : (pp == -1) = false := by simp; omega
            have hp3 : ¬ pp = -1 := by omega
            try clear i2
            go_wp2_with (go_at_call 14; fail)
            all_goals
              refine h9.mono ?_
              rintro e v4 ⟨rfl, hb9⟩
              have HBF : Hid (Below w.heap.size w v4) := HB.out.trans (Below.mono hb9 (Below.size HB.out))
              clear h9 hb9 x0 x1 x2 x3 x4 y0 y1 y2 y3 y4
              go_wp2
              go_ret
              exact ⟨rfl, HBF.out⟩
end Go.Proofs.YtlfhfcgcfggjcaaDoor.mwk

/- FnMarks: at every code the mark that is set is the reader's from then on and no other one is changed, what is read is one behind the other from the offset on, each answer is that of the specification, and a key's part is one of those there are; for every input, where the table sumTable holds what the program's own text lays in it (the card ties it). -/
namespace Go.Proofs.YtlfhfcgcfggjcaaDoor.fnMarks
open Go.ChangeShapes Go.WideShapes Go.ChangeAt Go.RowKit
open Go.ChangeMaps (open_string shut_string)
set_option linter.unusedVariables false

theorem own : ownKnob Tryd.prog.godebug = none := by kernel_rfl
theorem laidOut : laidOutB Tryd.prog = true := by kernel_rfl

def IsRow (k : IntKind) (w : World) (a : Option Addr) (len cap : Nat) (zs : List Int) : Prop :=
  (a = none ∧ len = 0 ∧ cap = 0 ∧ zs = []) ∨
  ∃ x, a = some x ∧ len ≤ cap ∧ cap ≤ maxLen ∧ zs.length = cap ∧ (∀ i, i < zs.length → w.cell? (x.add i) = some (.int k (zs.getD i 0))) ∧ ∀ n ∈ zs, (Lit.int k n).wf = true

theorem gTab : Tryd.prog.globalNamed "loop.example/g00227/impl.sumTable" = some 0 := by kernel_rfl
theorem gTabType : (Tryd.prog.globals[0]?).map (·.type) = some 80 := by kernel_rfl
theorem cellsTab : Tryd.prog.cellsOf 80 = 16 := by kernel_rfl
theorem cellsElem : Tryd.prog.cellsOf 65 = 1 := by kernel_rfl
def nums : List Int := [0, 274646895, 549293790, 820201905, 1098587580, 1361435347, 1640403810, 1905808397, 2197175160, 2460548119, 2722870694, 2987750089, 3280807620, 3553878443, 3811616794, 4084100981]
theorem table {W : World} (h : laidMetH Tryd.prog Rows.fnMarksRow.laid W) : Lib.TabIs Tryd.prog W "loop.example/g00227/impl.sumTable" .u32 nums :=
  Lib.tabIs_of_head (rest := []) gTab gTabType Tryd.underlying80 Tryd.underlying65 cellsElem cellsTab h
theorem nums_tab : ∀ r, r < 16 → nums.getD r 0 = (cs.tab r : Int) := by decide
theorem lib {W : World} (h : laidMetH Tryd.prog Rows.fnMarksRow.laid W) : mtt.TB W := by
  have hc : ∀ r, r < 16 → W.cell? ⟨0, r, none⟩ = some (.int .u32 (cs.tab r : Int)) := fun r hr => by
    rw [(table h).cell gTab r (by simpa [nums] using hr), nums_tab r hr]
  exact hc
def put (vs : Array Value) : Obj → Obj
  | .cells _ t frozen => .cells vs t frozen
  | o => o
def laidIn (W : World) : World := { W with heap := W.heap.modify 0 (put (nums.map (Value.int .u32)).toArray) }
theorem codeOf {w : World} {a : Option Addr} {len cap : Nat} {zs : List Int} (h : IsRow .u8 w a len cap zs) : dw.Code w w.heap.size a len := by
  rcases h with ⟨_, h0, _, _⟩ | ⟨x, rfl, hl, _, hz, hcell, hwf⟩
  · exact .inl h0
  · by_cases hlen : len = 0
    · exact .inl hlen
    obtain ⟨b, off, spot⟩ := x
    have h0 := hcell 0 (by omega)
    have hspot : spot = none := by simpa [Addr.add] using World.cell?_spot h0
    subst hspot
    refine .inr ⟨b, off, rfl, block_lt_of_cell h0, fun i hi => ?_⟩
    have hc := hcell i (by omega)
    have hmem : zs.getD i 0 ∈ zs := by
      have : i < zs.length := by omega
      simp [List.getD, List.getElem?_eq_getElem this]
    have hb := bounds_u8 (hwf _ hmem)
    refine ⟨(zs.getD i 0).toNat, by omega, ?_⟩
    rw [show (((zs.getD i 0).toNat : Nat) : Int) = zs.getD i 0 by omega]
    have e : (⟨b, off, none⟩ : Addr).add i = ⟨b, off + i, none⟩ := by unfold Addr.add; split <;> simp_all
    rw [← e]
    exact hc

theorem walk (a0 : Option Addr) (len0 cap0 : Nat) (z0 : List Int) (w : World) (w0 : IsRow .u8 w a0 len0 cap0 z0) (hlib : mtt.TB w) :
    Calls Tryd.prog 3 #[.slice a0 len0 cap0] w fun e w' => e = .returned (.bool true) ∧ Below w.heap.size w w' := by
  exact mwk.walk a0 len0 cap0 w (codeOf w0) hlib

set_option maxRecDepth 100000 in
theorem contract (H : Type) (enc : TypeId × Value → H) (W : World) (base : Nat) (args : Array Value) (ds gs : List (DataW H)) (before : List MemPlace)
    (hval : ∀ (j : Nat) t v, Tryd.f3.params[j]? = some t → args[j]? = some v → Value.okWide Tryd.prog W .any base t v)
    (hW : DataW.Whole enc Tryd.prog Tryd.f3.params.toList Rows.fnMarksSpec.vars false W args.toList ds gs before) (hL : laidMetH Tryd.prog Rows.fnMarksRow.laid W) (hsh : W.ShapedOpen Tryd.prog) :
    Calls Tryd.prog 3 args W fun e W' => ∃ v, e = .returned v ∧ Rows.fnMarksSpec.post enc Tryd.prog Tryd.f3 false true false false W args v W' := by
  have hW' := hW
  obtain ⟨p, q, hA0, hV, hb, hfz, hnd⟩ := hW
  have hA : DataW.TrodAll enc Tryd.prog W 0 (fun _ => true) true Tryd.f3.params.toList args.toList ds p := hA0
  rw [Tryd.params3] at hA hval
  obtain ⟨v0, vs0, d0, ds0, p0, q0, hargs, rfl, rfl, h0, r0⟩ := trodAll_cons hA
  obtain ⟨rfl, rfl, rfl⟩ := trodAll_nil r0
  obtain rfl : args = #[v0] := by cases args; simp_all
  have hV0 : DataW.TrodVars enc Tryd.prog W (fun _ => true) ["loop.example/g00227/impl.sumTable"] gs q := hV
  obtain ⟨dg, rfl⟩ : ∃ dg, gs = [dg] := by
    obtain ⟨g, t, cs, fuel, d, pg, hgs, _⟩ := trodVars_one hV0
    exact ⟨d, hgs⟩
  obtain ⟨a0, len0, cap0, rfl⟩ := okWide_slice Tryd.underlying22 (hval 0 22 v0 rfl rfl)
  have k0 := h0
  have lt0 : ∀ x ∈ p0, x.block < W.heap.size := by obtain ⟨m, hm⟩ := k0; exact DataW.trod_lt m _ _ _ hm
  obtain ⟨z0, w0⟩ : ∃ zs, IsRow .u8 W a0 len0 cap0 zs := by
    obtain ⟨fuel, hf⟩ := h0
    rcases open_ints Tryd.underlying22 Tryd.underlying5 (by kernel_rfl) hf with ⟨hcs, _⟩ | ⟨x, l, c, zs, hcs, _, hl, hm, hz, _, hcell, hwz⟩
    · simp [Value.cells] at hcs
      obtain ⟨rfl, rfl, rfl⟩ := hcs
      exact ⟨[], .inl ⟨rfl, rfl, rfl, rfl⟩⟩
    · simp [Value.cells] at hcs
      obtain ⟨rfl, rfl, rfl⟩ := hcs
      exact ⟨zs, .inr ⟨_, rfl, hl, hm, by simpa using hz, hcell, hwz⟩⟩
  clear hA0
  refine (walk a0 len0 cap0 z0 W w0 (lib hL)).mono fun e W' ⟨he, hg⟩ => ?_
  subst he
  exact ⟨_, rfl, _, _, _, [], _, q, hW', trodAll_cons_mk (shut_bool Tryd.underlying4 _) trodAll_mk0, trodAll_cons_mk (Below.trod laidOut (by kernel_rfl) (of_decide_eq_true (by kernel_rfl)) k0 hg lt0) trodAll_mk0, hg.trodVars laidOut (by kernel_rfl) hV0, hg.frame _, fun h => by cases h⟩

theorem laid_met (os : Os) : laidMet Tryd.prog Rows.fnMarksRow.laid ((laidIn (World.holding Tryd.prog os ⟨#[], #[], []⟩)).forCall (fun _ _ => 0) ⟨#[], #[.slice none 0 0], []⟩).memory :=
  laidMet_of_run' 8 (by kernel_rfl) (by kernel_rfl)
theorem reads (os : Os) {H : Type} (enc : TypeId × Value → H) : ∃ gs places, DataW.whole enc Tryd.prog ((laidIn (World.holding Tryd.prog os ⟨#[], #[], []⟩)).forCall (fun _ _ => 0) ⟨#[], #[.slice none 0 0], []⟩).memory Tryd.f3.params.toList Rows.fnMarksSpec.vars false (#[.slice none 0 0] : Array Value).toList 8 = some ([.nil], gs, places) :=
  ⟨[.agg (nums.map fun z => .lit (.int .u32 z))], MemPlace.row ⟨0, 0, none⟩ 16, by kernel_rfl⟩

set_option maxRecDepth 100000 in
theorem lifted (os : Os) (started : os.Started) (H : Type) (enc : TypeId × Value → H) (F : Stop.Interp) :
    ReturnsInHanded {} Tryd.checked os 3 .any ((OpenSpec.ofChange Rows.fnMarksSpec).preRow enc Tryd.prog Tryd.f3 Rows.fnMarksRow.domain false Rows.fnMarksRow.laid) (((OpenSpec.ofChange Rows.fnMarksSpec).at F).post enc Tryd.prog Tryd.f3 false true false false) := by
  obtain ⟨gs, places, hx⟩ := reads os enc
  refine returnsInHanded_of_row (C := Tryd.checked) (s := OpenSpec.ofChange Rows.fnMarksSpec) own started (by kernel_rfl) Tryd.func3
    (witness_row_at (enc := enc) (C := Tryd.checked) false (laidIn (World.holding Tryd.prog os ⟨#[], #[], []⟩)) #[.slice none 0 0] rfl (by kernel_rfl) (by kernel_rfl) (by kernel_rfl)
      (OpenSpec.preRow_of_cond 8 hx (by kernel_rfl) (fun k hk => by cases hk) (by kernel_rfl) (laid_met os))) ?_
  intro W base args ds gs before hval hW _ _ _ hL hsh _
  exact contract H enc W base args ds gs before hval hW hL hsh

theorem said : Rows.FnMarksSaid :=
  OpenClaim.holds_of_cond 3 Tryd.f3 rfl rfl rfl rfl rfl rfl rfl ⟨rfl, rfl, rfl, rfl, rfl⟩ rfl rfl rfl rfl rfl (by kernel_rfl) Tryd.func3 (by kernel_rfl)
    (of_decide_eq_true (by kernel_rfl)) (by unfold Func.isWrapper; first | (rw [if_pos (by decide +kernel)]; kernel_rfl) | (rw [if_neg (by decide +kernel)]; exact ⟨rfl, rfl⟩))
    (fun os started H enc _ F => by rw [OpenClaim.pre_eq_preRow]; exact lifted os started H enc F)

theorem plain (f : FuncId) (fn : Func) (hf : Tryd.pinned.checked.prog.funcNamed "loop.example/g00227/laws.FnMarks" = some f) (hfn : Tryd.pinned.checked.prog.funcs[f]? = some fn) :
    false = Tryd.pinned.checked.prog.looks [] ∧ ∀ (j : Nat) t, fn.params[j]? = some t → Tryd.pinned.checked.prog.wantsStandIn t = false := by
  obtain rfl : f = 3 := Option.some.inj ((show Tryd.prog.funcNamed "loop.example/g00227/laws.FnMarks" = some 3 by kernel_rfl).symm.trans hf) |>.symm
  obtain rfl : fn = Tryd.f3 := (Option.some.inj (Tryd.func3.symm.trans hfn)).symm
  refine ⟨by kernel_rfl, fun j t ht => ?_⟩
  rw [Tryd.params3] at ht
  obtain rfl : t = 22 := by simpa using Array.mem_of_getElem? ht
  exact (show Tryd.prog.wantsStandIn 22 = false by kernel_rfl)

theorem card : Rows.FnMarksCardSaid :=
  Claim7.holds_tied_plain_at .later [] _ _ _ _ said (fun _ h => by cases h) (by kernel_rfl) (fun _ h => by cases h) fnMarks_row_tie rfl ⟨rfl, rfl⟩ (by kernel_rfl) rfl plain (by kernel_rfl)
#print axioms card
end Go.Proofs.YtlfhfcgcfggjcaaDoor.fnMarks
