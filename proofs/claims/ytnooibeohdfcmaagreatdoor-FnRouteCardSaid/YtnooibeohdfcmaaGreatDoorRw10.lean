/- append(append(append([]T{}, a...), x), b...) given to a variable, in one region that draws its order: the row that it leaves. -/
import Derived.Test.YtnooibeohdfcmaaGreatDoorRw09
import Derived.Test.YtnooibeohdfcmaaGreatDoorRouteOrder
import Derived.Test.YtnooibeohdfcmaaGreatDoorDoneKit
import Derived.Test.YtnooibeohdfcmaaGreatDoorFlatOwn
import Derived.Maps.AppendAt

/- The specification's draws of FnRoute: routes and what is asked of them. -/
namespace Go.Proofs.YtnooibeohdfcmaaGreatDoor.drs
open Go.ChangeShapes Go.WideShapes Go.ChangeAt Go.RowKit Go.Proofs.YtnooibeohdfcmaaGreatDoor.fl Go.Proofs.YtnooibeohdfcmaaGreatDoor.dw Go.Proofs.YtnooibeohdfcmaaGreatDoor.rr Go.Proofs.YtnooibeohdfcmaaGreatDoor.ro Go.Proofs.YtnooibeohdfcmaaGreatDoor.su Go.Proofs.YtnooibeohdfcmaaGreatDoor.rwy Go.Proofs.YtnooibeohdfcmaaGreatDoor.dlr Go.Proofs.YtnooibeohdfcmaaGreatDoor.dtr
set_option linter.unusedVariables false

def keys4 : List ByteArray := [⟨#[113]⟩, ⟨#[114]⟩, ⟨#[115]⟩, ⟨#[]⟩]
theorem keys4_in : ∀ z ∈ keys4, z.size ≤ 1 := by decide
structure G3 where
  x : Nat
  a : Nat
  t : ByteArray
/-- what stands on the way of a draw behind the routes' -/
structure Dz (a : Option Addr) (len cap : Nat) (w : World) (es : List Ex) (bs : List Bi) (ea : Option Addr) (ec : Nat) (ba : Option Addr) (bc : Nat) (W : World) : Prop where
  rb : W.heap[w.heap.size]? = some (.cells #[.slice none 0 0, .slice none 0 0] 27 (0, 0))
  cur : Cur W (w.heap.size + 1) a len cap
  bel : Below w.heap.size w W
  dr : Tr (w.heap.size + 2) W es bs ea ec ba bc
section
variable {a : Option Addr} {len cap : Nat} {w W W' : World} {es : List Ex} {bs : List Bi} {ea ba : Option Addr} {ec bc : Nat}
theorem Dz.draw (h : Dz a len cap w es bs ea ec ba bc W) (hc : Cur W' (w.heap.size + 1) a len cap) (hb : On (w.heap.size + 1) W W') : Dz a len cap w es bs ea ec ba bc W' :=
  ⟨st_block h.rb hb (by omega), hc, h.bel.trans (hb.below (by omega) (by have := (Array.getElem?_eq_some_iff.1 h.rb).1; omega)), h.dr.on hb (by omega)⟩
theorem Dz.step (h : Dz a len cap w es bs ea ec ba bc W) (hb : Below W.heap.size W W') : Dz a len cap w es bs ea ec ba bc W' :=
  ⟨bstay h.rb hb (Array.getElem?_eq_some_iff.1 h.rb).1, h.cur.below hb, h.bel.trans (hb.mono h.bel.size), h.dr.below hb⟩
theorem Dz.done (h : Dz a len cap w es bs ea ec ba bc W) (x0 x1 : Value) : Tr w.heap.size (res2 W w.heap.size x0 x1) es bs ea ec ba bc ∧ Below w.heap.size w (res2 W w.heap.size x0 x1) :=
  ⟨(tr_res2 h.dr h.rb ..).low (by omega), ((h.bel.setCell (Nat.le_refl _) _).setCell (Nat.le_refl _) _)⟩
theorem code_at (hc : dw.Code w w.heap.size a len) : dw.Code (w.alloc (.cells #[.slice none 0 0, .slice none 0 0] 27)) (w.alloc (.cells #[.slice none 0 0, .slice none 0 0] 27)).heap.size a len := (hc.below ((Below.refl _ _).alloc (Nat.le_refl _) _) (Nat.le_refl _)).mono (by simp)
end
set_option maxRecDepth 100000 in
set_option maxHeartbeats 2000000 in
theorem draw_decl (a : Option Addr) (len cap : Nat) (w : World) (hlen : len ≤ 1048576) (hc : dw.Code w w.heap.size a len) :
    Calls Tryz.prog 11 #[.slice a len cap] w fun e w' => (∃ (es : List Ex) (bs : List Bi) (ea : Option Addr) (ec : Nat) (ba : Option Addr) (bc : Nat) (n : ByteArray) (kd : Int), e = .returned (.tuple #[.agg #[.slice ea es.length ec, .slice ba bs.length bc], .string n, .int .i64 kd]) ∧ Sm 200 es bs ∧ Tr w.heap.size w' es bs ea ec ba bc ∧ n.size ≤ 31) ∧ Below w.heap.size w w' ∧ w.heap.size < w'.heap.size := by
  have h1 := draw_new a len cap _ hlen (code_at hc)
  have HR0 : Hid ((w.alloc (.cells #[.slice none 0 0, .slice none 0 0] 27)).heap[w.heap.size]? = some (.cells #[.slice none 0 0, .slice none 0 0] 27 (0, 0))) := bnew w _ _
  have HB0 : Hid (Below w.heap.size w (w.alloc (.cells #[.slice none 0 0, .slice none 0 0] 27))) := (Below.refl _ _).alloc (Nat.le_refl _) _
  clear hc
  go_enter Tryz.func11, Tryz.ntmps11
  go_wp2_with (go_at_call 20; fail)
  refine h1.mono ?_
  rintro e w1 ⟨rfl, hc1, hb1⟩
  rw [World.size_alloc] at hc1 hb1
  have hR1 := bstay HR0.out hb1 (by omega)
  have hB1 := HB0.out.trans (hb1.mono (by omega))
  have h2 := draw_routes (w.heap.size + 1) a len cap w1 hc1
  have hlt1 := hc1.lt
  have HR1 : Hid (w1.heap[w.heap.size]? = some (.cells #[.slice none 0 0, .slice none 0 0] 27 (0, 0))) := hR1
  have HB1 : Hid (Below w.heap.size w w1) := hB1
  clear h1 hc1 hb1 hR1 hB1 HR0 HB0
  go_wp2_with (go_at_call 21; fail)
  refine h2.mono ?_
  rintro e w2 ⟨⟨es, bs, ea, ec, ba, bc, rfl, hsm, hdr⟩, hc2, hb2⟩
  have HD2 : Hid (Dz a len cap w es bs ea ec ba bc w2) := ⟨st_block HR1.out hb2 (by omega), hc2, HB1.out.trans (hb2.below (by omega) (by omega)), hdr.low (by omega)⟩
  have HSM : Hid (Sm 200 es bs) := hsm
  have hsz2 := hb2.size
  clear h2 hsm hdr hc2 hb2 HR1 HB1
  have HN3 : Hid ((w2.alloc (.cells #[.slice ea es.length ec, .slice ba bs.length bc] 27)).heap[w2.heap.size]? = some (.cells #[.slice ea es.length ec, .slice ba bs.length bc] 27 (0, 0))) := bnew w2 _ _
  have HD3 : Hid (Dz a len cap w es bs ea ec ba bc (w2.alloc (.cells #[.slice ea es.length ec, .slice ba bs.length bc] 27))) := HD2.out.step ((Below.refl _ _).alloc (Nat.le_refl _) _)
  have hne2 : w2.heap.size ≠ w.heap.size + 1 := by omega
  clear HD2
  have g3 := draw_short (w.heap.size + 1) a len cap (w2.alloc (.cells #[.slice ea es.length ec, .slice ba bs.length bc] 27)) HD3.out.cur
  go_wp2_with (go_at_call 22; fail)
  refine g3.mono ?_
  rintro e w3 ⟨⟨nn, hnn, rfl⟩, hc3, hb3⟩
  have HD4 : Hid (Dz a len cap w es bs ea ec ba bc w3) := HD3.out.draw hc3 hb3
  have HN4 : Hid (w3.heap[w2.heap.size]? = some (.cells #[.slice ea es.length ec, .slice ba bs.length bc] 27 (0, 0))) := st_block HN3.out hb3 (by omega)
  have hs4 : w2.heap.size < w3.heap.size := (Array.getElem?_eq_some_iff.1 HN4.out).1
  clear g3 hc3 hb3 HD3 HN3 
  go_wp2
  refine cht.region (σ := G3) (ws := (fun s : G3 => [(14, .agg #[.slice ea es.length ec, .slice ba bs.length bc]), (15, .string nn), (16, .pointer (some ⟨w.heap.size + 1, 0, none⟩)), (17, .int .i64 s.x), (18, .int .i64 ((s.x : Int) - 1)), (3, .string nn), (4, .int .i64 ((s.x : Int) - 1))])) (js := [3, 5]) (S := (fun g k W => (k ≤ 1 → Dz a len cap w es bs ea ec ba bc W ∧ W.heap[w2.heap.size]? = some (.cells #[.slice ea es.length ec, .slice ba bs.length bc] 27 (0, 0))) ∧ (g.x < 5) ∧ (k = 2 → Tr w.heap.size W es bs ea ec ba bc ∧ Below w.heap.size w W ∧ W.heap[w.heap.size]? = some (.cells #[.slice ea es.length ec, .slice ba bs.length bc] 27 (0, 0))))) [14, 15, 16, 17, 18, 3, 4] ⟨0, 0, ⟨#[]⟩⟩ (by kernel_rfl) (by kernel_rfl) (fun _ => rfl) (by kernel_rfl) (by decide) ⟨fun _ => ⟨HD4.out.step (Below.refl _ _).drew, bstay HN4.out (Below.refl _ _).drew (by have := (Array.getElem?_eq_some_iff.1 HN4.out).1; omega)⟩, by decide, fun h => (by omega)⟩ ?each ?fin
  case each =>
    refine ⟨cht.quiet 1 rfl (by decide) (.inr ⟨5, _, rfl, rfl, ⟨0, .data⟩, by simp, rfl, rfl⟩) (by simp) (fun s => .agg #[.slice ea es.length ec, .slice ba bs.length bc]) (by rintro s _ ⟨⟩; exact dk.sets_on _ (by simp) _ rfl) (fun s k' W hk' hS => by obtain ⟨hZ, hN⟩ := hS.1 hk'; have c0 : W.cell? ⟨w2.heap.size, 0, none⟩ = some (.slice ea es.length ec) := bcell hN rfl; have c1 : W.cell? ⟨w2.heap.size, 1, none⟩ = some (.slice ba bs.length bc) := bcell hN rfl; simp [execOp, go_sem, Act.eval, dk.sets_get, List.lookup, c0, c1]), ?_⟩
    refine ⟨cht.quiet 2 rfl (by decide) (.inl rfl) (by simp) (fun s => .string nn) (by rintro s _ ⟨⟩; exact dk.sets_on _ (by simp) _ rfl) (fun s k' W hk' hS => by simp [execOp, go_sem, Act.eval, dk.sets_get, List.lookup]), ?_⟩
    refine ⟨cht.quiet 2 rfl (by decide) (.inl rfl) (by simp) (fun s => .pointer (some ⟨w.heap.size + 1, 0, none⟩)) (by rintro s _ ⟨⟩; exact dk.sets_on _ (by simp) _ rfl) (fun s k' W hk' hS => by simp [execOp, go_sem, Act.eval, dk.sets_get, List.lookup]), ?_⟩
    refine ⟨chd.call 0 [3, 4, 5, 6, 7] [17, 18, 4] (by kernel_rfl) (by kernel_rfl) rfl (by decide) rfl (.inl rfl) (by simp) 45 (fun s => #[.pointer (some ⟨w.heap.size + 1, 0, none⟩), .int .i64 5]) (fun s W hS => by exact ⟨by simp [go_sem, Act.eval, dk.sets_get, List.lookup], (draw_below (w.heap.size + 1) a len cap 5 W (by omega) (hS.1 (by omega)).1.cur).mono fun e w9 hh => by obtain ⟨⟨z9, hz9, rfl⟩, k1, k2⟩ := hh; exact ⟨{ s with x := z9 }, _, rfl, (by simp [chd.But]), (by rintro _ ⟨⟩; exact dk.sets_on _ (by simp) _ rfl), fun h => ⟨(hS.1 (by omega)).1.draw k1 k2, st_block (hS.1 (by omega)).2 k2 (by omega)⟩, hz9, fun h => (by omega)⟩⟩), ?_⟩
    refine ⟨cht.quiet 2 rfl (by decide) (.inl rfl) (by simp) (fun s => .int .i64 ((s.x : Int) - 1)) (by rintro s _ ⟨⟩; exact dk.sets_on _ (by simp) _ rfl) (fun s k' W hk' hS => by have h9 := hS.2.1; have hwr : IntKind.i64.wrap ((s.x : Int) - 1) = (s.x : Int) - 1 := (by rw [IntKind.wrap_i64]; omega); simp [execOp, go_sem, Act.eval, dk.sets_get, List.lookup, hwr]), ?_⟩
    refine ⟨cht.sto 1 rfl (by decide) rfl (.inr ⟨⟨3, .chain⟩, by simp, rfl, rfl⟩) (by simp) rfl (fun s W hS => by obtain ⟨hZ, hN⟩ := hS.1 (by omega); have q0 : W.cell? ⟨w.heap.size, 0, none⟩ = some (.slice none 0 0) := bcell hZ.rb rfl; have r0 := bfree hZ.rb 0; have q1 : W.cell? ⟨w.heap.size, 1, none⟩ = some (.slice none 0 0) := bcell hZ.rb rfl; have r1 := bfree hZ.rb 1; exact ⟨res2 W w.heap.size (.slice ea es.length ec) (.slice ba bs.length bc), by simp [execOp, go_sem, Act.eval, dk.sets_get, List.lookup, q0, q1, r0, r1, res2], fun h => (by omega), hS.2.1, fun _ => ⟨(hZ.done _ _).1, (hZ.done _ _).2, res2_at hZ.rb ..⟩⟩), ?_⟩
    refine ⟨cht.quiet 2 rfl (by decide) (.inl rfl) (by simp) (fun s => .string nn) (by rintro s _ ⟨⟩; exact dk.sets_on _ (by simp) _ rfl) (fun s k' W hk' hS => by simp [execOp, go_sem, Act.eval, dk.sets_get, List.lookup]), ?_⟩
    exact ⟨cht.quiet 2 rfl (by decide) (.inl rfl) (by simp) (fun s => .int .i64 ((s.x : Int) - 1)) (by rintro s _ ⟨⟩; exact dk.sets_on _ (by simp) _ rfl) (fun s k' W hk' hS => by simp [execOp, go_sem, Act.eval, dk.sets_get, List.lookup]), trivial⟩
  case fin =>
    intro s x5 hS
    obtain ⟨hd5, hb5, hr5⟩ := hS.2.2 rfl
    have q0 : x5.cell? ⟨w.heap.size, 0, none⟩ = some (.slice ea es.length ec) := bcell hr5 rfl
    have q1 : x5.cell? ⟨w.heap.size, 1, none⟩ = some (.slice ba bs.length bc) := bcell hr5 rfl
    have HD5 : Hid (Tr w.heap.size x5 es bs ea ec ba bc ∧ Below w.heap.size w x5 ∧ w.heap.size < x5.heap.size) := ⟨hd5, hb5, (Array.getElem?_eq_some_iff.1 hr5).1⟩
    obtain ⟨sx, sA, sT⟩ := s
    simp only [dk.sets]
    clear hS hd5 hb5 hr5
    go_wp2
    exact bodyPost_ret (v := .tuple #[.agg #[.slice ea es.length ec, .slice ba bs.length bc], .string nn, .int .i64 ((sx : Int) - 1)]) (by simp [results, Tryz.results11, go_sem, q0, q1]) rfl ⟨⟨es, bs, ea, ec, ba, bc, nn, (sx : Int) - 1, rfl, HSM.out, HD5.out.1, hnn⟩, HD5.out.2⟩
set_option maxRecDepth 100000 in
set_option maxHeartbeats 2000000 in
theorem draw_bind (a : Option Addr) (len cap : Nat) (w : World) (hlen : len ≤ 1048576) (hc : dw.Code w w.heap.size a len) :
    Calls Tryz.prog 8 #[.slice a len cap] w fun e w' => (∃ (es : List Ex) (bs : List Bi) (ea : Option Addr) (ec : Nat) (ba : Option Addr) (bc : Nat) (x k q : ByteArray), e = .returned (.tuple #[.agg #[.slice ea es.length ec, .slice ba bs.length bc], .string x, .string k, .string q]) ∧ Sm 200 es bs ∧ Tr w.heap.size w' es bs ea ec ba bc ∧ x.size ≤ 31 ∧ k.size ≤ 100 ∧ q.size ≤ 1) ∧ Below w.heap.size w w' ∧ w.heap.size < w'.heap.size := by
  have h1 := draw_new a len cap _ hlen (code_at hc)
  have HR0 : Hid ((w.alloc (.cells #[.slice none 0 0, .slice none 0 0] 27)).heap[w.heap.size]? = some (.cells #[.slice none 0 0, .slice none 0 0] 27 (0, 0))) := bnew w _ _
  have HB0 : Hid (Below w.heap.size w (w.alloc (.cells #[.slice none 0 0, .slice none 0 0] 27))) := (Below.refl _ _).alloc (Nat.le_refl _) _
  clear hc
  go_enter Tryz.func8, Tryz.ntmps8
  go_wp2_with (go_at_call 20; fail)
  refine h1.mono ?_
  rintro e w1 ⟨rfl, hc1, hb1⟩
  rw [World.size_alloc] at hc1 hb1
  have hR1 := bstay HR0.out hb1 (by omega)
  have hB1 := HB0.out.trans (hb1.mono (by omega))
  have h2 := draw_routes (w.heap.size + 1) a len cap w1 hc1
  have hlt1 := hc1.lt
  have HR1 : Hid (w1.heap[w.heap.size]? = some (.cells #[.slice none 0 0, .slice none 0 0] 27 (0, 0))) := hR1
  have HB1 : Hid (Below w.heap.size w w1) := hB1
  clear h1 hc1 hb1 hR1 hB1 HR0 HB0
  go_wp2_with (go_at_call 21; fail)
  refine h2.mono ?_
  rintro e w2 ⟨⟨es, bs, ea, ec, ba, bc, rfl, hsm, hdr⟩, hc2, hb2⟩
  have HD2 : Hid (Dz a len cap w es bs ea ec ba bc w2) := ⟨st_block HR1.out hb2 (by omega), hc2, HB1.out.trans (hb2.below (by omega) (by omega)), hdr.low (by omega)⟩
  have HSM : Hid (Sm 200 es bs) := hsm
  have hsz2 := hb2.size
  clear h2 hsm hdr hc2 hb2 HR1 HB1
  have HN3 : Hid ((w2.alloc (.cells #[.slice ea es.length ec, .slice ba bs.length bc] 27)).heap[w2.heap.size]? = some (.cells #[.slice ea es.length ec, .slice ba bs.length bc] 27 (0, 0))) := bnew w2 _ _
  have HD3 : Hid (Dz a len cap w es bs ea ec ba bc (w2.alloc (.cells #[.slice ea es.length ec, .slice ba bs.length bc] 27))) := HD2.out.step ((Below.refl _ _).alloc (Nat.le_refl _) _)
  have hne2 : w2.heap.size ≠ w.heap.size + 1 := by omega
  clear HD2
  have g3 := draw_short (w.heap.size + 1) a len cap (w2.alloc (.cells #[.slice ea es.length ec, .slice ba bs.length bc] 27)) HD3.out.cur
  go_wp2_with (go_at_call 22; fail)
  refine g3.mono ?_
  rintro e w3 ⟨⟨xx, hxx, rfl⟩, hc3, hb3⟩
  have HD4 : Hid (Dz a len cap w es bs ea ec ba bc w3) := HD3.out.draw hc3 hb3
  have HN4 : Hid (w3.heap[w2.heap.size]? = some (.cells #[.slice ea es.length ec, .slice ba bs.length bc] 27 (0, 0))) := st_block HN3.out hb3 (by omega)
  have hs4 : w2.heap.size < w3.heap.size := (Array.getElem?_eq_some_iff.1 HN4.out).1
  clear g3 hc3 hb3 HD3 HN3 
  have g4 := dp.draw_key (w.heap.size + 1) a len cap w3 HD4.out.cur
  go_wp2_with (go_at_call 24; fail)
  refine g4.mono ?_
  rintro e w4 ⟨⟨kk, hkk, rfl⟩, hc3, hb3⟩
  have HD5 : Hid (Dz a len cap w es bs ea ec ba bc w4) := HD4.out.draw hc3 hb3
  have HN5 : Hid (w4.heap[w2.heap.size]? = some (.cells #[.slice ea es.length ec, .slice ba bs.length bc] 27 (0, 0))) := st_block HN4.out hb3 (by omega)
  have hs5 : w2.heap.size < w4.heap.size := (Array.getElem?_eq_some_iff.1 HN5.out).1
  clear g4 hc3 hb3 HD4 HN4 
  go_wp2
  refine cht.region (σ := G3) (ws := (fun s : G3 => [(18, .agg #[.slice ea es.length ec, .slice ba bs.length bc]), (19, .string xx), (20, .string kk), (21, .pointer (some ⟨w.heap.size + 1, 0, none⟩)), (22, .slice (some ⟨s.a, 0, none⟩) 4 4), (23, .string s.t), (3, .string xx), (4, .string kk), (5, .string s.t)])) (js := [4, 5, 6]) (S := (fun g k W => (k ≤ 2 → Dz a len cap w es bs ea ec ba bc W ∧ W.heap[w2.heap.size]? = some (.cells #[.slice ea es.length ec, .slice ba bs.length bc] 27 (0, 0))) ∧ ((k = 1 → w.heap.size + 1 ≠ g.a ∧ ∀ i, i < 4 → ∃ z ∈ keys4, W.cell? ⟨g.a, i, none⟩ = some (.string z)) ∧ g.t.size ≤ 1) ∧ (k = 3 → Tr w.heap.size W es bs ea ec ba bc ∧ Below w.heap.size w W ∧ W.heap[w.heap.size]? = some (.cells #[.slice ea es.length ec, .slice ba bs.length bc] 27 (0, 0))))) [18, 19, 20, 21, 22, 23, 3, 4, 5] ⟨0, 0, ⟨#[]⟩⟩ (by kernel_rfl) (by kernel_rfl) (fun _ => rfl) (by kernel_rfl) (by decide) ⟨fun _ => ⟨HD5.out.step (Below.refl _ _).drew, bstay HN5.out (Below.refl _ _).drew (by have := (Array.getElem?_eq_some_iff.1 HN5.out).1; omega)⟩, ⟨fun h => (by omega), by decide⟩, fun h => (by omega)⟩ ?each ?fin
  case each =>
    refine ⟨cht.quiet 2 rfl (by decide) (.inr ⟨6, _, rfl, rfl, ⟨0, .data⟩, by simp, rfl, rfl⟩) (by simp) (fun s => .agg #[.slice ea es.length ec, .slice ba bs.length bc]) (by rintro s _ ⟨⟩; exact dk.sets_on _ (by simp) _ rfl) (fun s k' W hk' hS => by obtain ⟨hZ, hN⟩ := hS.1 hk'; have c0 : W.cell? ⟨w2.heap.size, 0, none⟩ = some (.slice ea es.length ec) := bcell hN rfl; have c1 : W.cell? ⟨w2.heap.size, 1, none⟩ = some (.slice ba bs.length bc) := bcell hN rfl; simp [execOp, go_sem, Act.eval, dk.sets_get, List.lookup, c0, c1]), ?_⟩
    refine ⟨cht.quiet 3 rfl (by decide) (.inl rfl) (by simp) (fun s => .string xx) (by rintro s _ ⟨⟩; exact dk.sets_on _ (by simp) _ rfl) (fun s k' W hk' hS => by simp [execOp, go_sem, Act.eval, dk.sets_get, List.lookup]), ?_⟩
    refine ⟨cht.quiet 3 rfl (by decide) (.inl rfl) (by simp) (fun s => .string kk) (by rintro s _ ⟨⟩; exact dk.sets_on _ (by simp) _ rfl) (fun s k' W hk' hS => by simp [execOp, go_sem, Act.eval, dk.sets_get, List.lookup]), ?_⟩
    refine ⟨cht.quiet 3 rfl (by decide) (.inl rfl) (by simp) (fun s => .pointer (some ⟨w.heap.size + 1, 0, none⟩)) (by rintro s _ ⟨⟩; exact dk.sets_on _ (by simp) _ rfl) (fun s k' W hk' hS => by simp [execOp, go_sem, Act.eval, dk.sets_get, List.lookup]), ?_⟩
    refine ⟨chd.eff 0 [4, 5, 6, 7, 8, 9] [22] (by kernel_rfl) (by kernel_rfl) rfl (by decide) rfl (.inl rfl) (by simp) (fun s W hS => by exact ⟨{ s with a := W.heap.size }, .slice (some ⟨W.heap.size, 0, none⟩) 4 4, W.alloc (.cells (keys4.map Value.string).toArray 9), (by simp [chd.But]), (by rintro _ ⟨⟩; exact dk.sets_on _ (by simp) _ rfl), (by simp [execOp, go_sem, Act.eval, dk.sets_get, List.lookup, keys4]), fun h => ⟨(hS.1 (by omega)).1.step ((Below.refl _ _).alloc (Nat.le_refl _) _), bold (hS.1 (by omega)).2 _⟩, ⟨fun _ => ⟨(by have := (hS.1 (by omega)).1.cur.lt; show w.heap.size + 1 ≠ W.heap.size; omega), at_texts W keys4 _⟩, hS.2.1.2⟩, fun h => (by omega)⟩), ?_⟩
    refine ⟨chd.call 1 [5, 6, 7, 8, 9] [23, 5] (by kernel_rfl) (by kernel_rfl) rfl (by decide) rfl (.inr ⟨⟨4, .data⟩, by simp, rfl, rfl⟩) (by simp) 36 (fun s => #[.pointer (some ⟨w.heap.size + 1, 0, none⟩), .slice (some ⟨s.a, 0, none⟩) 4 4]) (fun s W hS => by exact ⟨by simp [go_sem, Act.eval, dk.sets_get, List.lookup], (draw_pick (w.heap.size + 1) a len cap s.a 4 keys4 W (by omega) (Ne.symm (hS.2.1.1 rfl).1) (hS.2.1.1 rfl).2 (hS.1 (by omega)).1.cur).mono fun e w9 hh => by obtain ⟨⟨z9, hz9, rfl⟩, k1, k2⟩ := hh; exact ⟨{ s with t := z9 }, _, rfl, (by simp [chd.But]), (by rintro _ ⟨⟩; exact dk.sets_on _ (by simp) _ rfl), fun h => ⟨(hS.1 (by omega)).1.draw k1 k2, st_block (hS.1 (by omega)).2 k2 (by omega)⟩, ⟨fun h => (by omega), keys4_in z9 hz9⟩, fun h => (by omega)⟩⟩), ?_⟩
    refine ⟨cht.sto 2 rfl (by decide) rfl (.inr ⟨⟨5, .chain⟩, by simp, rfl, rfl⟩) (by simp) rfl (fun s W hS => by obtain ⟨hZ, hN⟩ := hS.1 (by omega); have q0 : W.cell? ⟨w.heap.size, 0, none⟩ = some (.slice none 0 0) := bcell hZ.rb rfl; have r0 := bfree hZ.rb 0; have q1 : W.cell? ⟨w.heap.size, 1, none⟩ = some (.slice none 0 0) := bcell hZ.rb rfl; have r1 := bfree hZ.rb 1; exact ⟨res2 W w.heap.size (.slice ea es.length ec) (.slice ba bs.length bc), by simp [execOp, go_sem, Act.eval, dk.sets_get, List.lookup, q0, q1, r0, r1, res2], fun h => (by omega), ⟨fun h => (by omega), hS.2.1.2⟩, fun _ => ⟨(hZ.done _ _).1, (hZ.done _ _).2, res2_at hZ.rb ..⟩⟩), ?_⟩
    refine ⟨cht.quiet 3 rfl (by decide) (.inl rfl) (by simp) (fun s => .string xx) (by rintro s _ ⟨⟩; exact dk.sets_on _ (by simp) _ rfl) (fun s k' W hk' hS => by simp [execOp, go_sem, Act.eval, dk.sets_get, List.lookup]), ?_⟩
    refine ⟨cht.quiet 3 rfl (by decide) (.inl rfl) (by simp) (fun s => .string kk) (by rintro s _ ⟨⟩; exact dk.sets_on _ (by simp) _ rfl) (fun s k' W hk' hS => by simp [execOp, go_sem, Act.eval, dk.sets_get, List.lookup]), ?_⟩
    exact ⟨cht.quiet 3 rfl (by decide) (.inl rfl) (by simp) (fun s => .string s.t) (by rintro s _ ⟨⟩; exact dk.sets_on _ (by simp) _ rfl) (fun s k' W hk' hS => by simp [execOp, go_sem, Act.eval, dk.sets_get, List.lookup]), trivial⟩
  case fin =>
    intro s x5 hS
    have HST : s.t.size ≤ 1 := hS.2.1.2
    obtain ⟨hd5, hb5, hr5⟩ := hS.2.2 rfl
    have q0 : x5.cell? ⟨w.heap.size, 0, none⟩ = some (.slice ea es.length ec) := bcell hr5 rfl
    have q1 : x5.cell? ⟨w.heap.size, 1, none⟩ = some (.slice ba bs.length bc) := bcell hr5 rfl
    have HD5 : Hid (Tr w.heap.size x5 es bs ea ec ba bc ∧ Below w.heap.size w x5 ∧ w.heap.size < x5.heap.size) := ⟨hd5, hb5, (Array.getElem?_eq_some_iff.1 hr5).1⟩
    obtain ⟨sx, sA, sT⟩ := s
    simp only [dk.sets]
    clear hS hd5 hb5 hr5
    go_wp2
    exact bodyPost_ret (v := .tuple #[.agg #[.slice ea es.length ec, .slice ba bs.length bc], .string xx, .string kk, .string sT]) (by simp [results, Tryz.results8, go_sem, q0, q1]) rfl ⟨⟨es, bs, ea, ec, ba, bc, xx, kk, sT, rfl, HSM.out, HD5.out.1, hxx, hkk, HST⟩, HD5.out.2⟩
set_option maxRecDepth 100000 in
set_option maxHeartbeats 2000000 in
theorem draw_route (a : Option Addr) (len cap : Nat) (w : World) (hlen : len ≤ 1048576) (hc : dw.Code w w.heap.size a len) :
    Calls Tryz.prog 5 #[.slice a len cap] w fun e w' => (∃ (es : List Ex) (bs : List Bi) (ea : Option Addr) (ec : Nat) (ba : Option Addr) (bc : Nat) (x k : ByteArray), e = .returned (.tuple #[.agg #[.slice ea es.length ec, .slice ba bs.length bc], .string x, .string k]) ∧ Sm 200 es bs ∧ Tr w.heap.size w' es bs ea ec ba bc ∧ x.size ≤ 31 ∧ k.size ≤ 100) ∧ Below w.heap.size w w' ∧ w.heap.size < w'.heap.size := by
  have h1 := draw_new a len cap _ hlen (code_at hc)
  have HR0 : Hid ((w.alloc (.cells #[.slice none 0 0, .slice none 0 0] 27)).heap[w.heap.size]? = some (.cells #[.slice none 0 0, .slice none 0 0] 27 (0, 0))) := bnew w _ _
  have HB0 : Hid (Below w.heap.size w (w.alloc (.cells #[.slice none 0 0, .slice none 0 0] 27))) := (Below.refl _ _).alloc (Nat.le_refl _) _
  clear hc
  go_enter Tryz.func5, Tryz.ntmps5
  go_wp2_with (go_at_call 20; fail)
  refine h1.mono ?_
  rintro e w1 ⟨rfl, hc1, hb1⟩
  rw [World.size_alloc] at hc1 hb1
  have hR1 := bstay HR0.out hb1 (by omega)
  have hB1 := HB0.out.trans (hb1.mono (by omega))
  have h2 := draw_routes (w.heap.size + 1) a len cap w1 hc1
  have hlt1 := hc1.lt
  have HR1 : Hid (w1.heap[w.heap.size]? = some (.cells #[.slice none 0 0, .slice none 0 0] 27 (0, 0))) := hR1
  have HB1 : Hid (Below w.heap.size w w1) := hB1
  clear h1 hc1 hb1 hR1 hB1 HR0 HB0
  go_wp2_with (go_at_call 21; fail)
  refine h2.mono ?_
  rintro e w2 ⟨⟨es, bs, ea, ec, ba, bc, rfl, hsm, hdr⟩, hc2, hb2⟩
  have HD2 : Hid (Dz a len cap w es bs ea ec ba bc w2) := ⟨st_block HR1.out hb2 (by omega), hc2, HB1.out.trans (hb2.below (by omega) (by omega)), hdr.low (by omega)⟩
  have HSM : Hid (Sm 200 es bs) := hsm
  have hsz2 := hb2.size
  clear h2 hsm hdr hc2 hb2 HR1 HB1
  have HN3 : Hid ((w2.alloc (.cells #[.slice ea es.length ec, .slice ba bs.length bc] 27)).heap[w2.heap.size]? = some (.cells #[.slice ea es.length ec, .slice ba bs.length bc] 27 (0, 0))) := bnew w2 _ _
  have HD3 : Hid (Dz a len cap w es bs ea ec ba bc (w2.alloc (.cells #[.slice ea es.length ec, .slice ba bs.length bc] 27))) := HD2.out.step ((Below.refl _ _).alloc (Nat.le_refl _) _)
  have hne2 : w2.heap.size ≠ w.heap.size + 1 := by omega
  clear HD2
  have g3 := draw_short (w.heap.size + 1) a len cap (w2.alloc (.cells #[.slice ea es.length ec, .slice ba bs.length bc] 27)) HD3.out.cur
  go_wp2_with (go_at_call 22; fail)
  refine g3.mono ?_
  rintro e w3 ⟨⟨xx, hxx, rfl⟩, hc3, hb3⟩
  have HD4 : Hid (Dz a len cap w es bs ea ec ba bc w3) := HD3.out.draw hc3 hb3
  have HN4 : Hid (w3.heap[w2.heap.size]? = some (.cells #[.slice ea es.length ec, .slice ba bs.length bc] 27 (0, 0))) := st_block HN3.out hb3 (by omega)
  have hs4 : w2.heap.size < w3.heap.size := (Array.getElem?_eq_some_iff.1 HN4.out).1
  clear g3 hc3 hb3 HD3 HN3 
  have g4 := draw_once (w.heap.size + 1) a len cap 8 w3 (by omega) HD4.out.cur
  go_wp2_with (go_at_call 23; fail)
  refine g4.mono ?_
  rintro e w4 ⟨⟨b1, rfl⟩, hc3, hb3⟩
  have HD5 : Hid (Dz a len cap w es bs ea ec ba bc w4) := HD4.out.draw hc3 hb3
  have HN5 : Hid (w4.heap[w2.heap.size]? = some (.cells #[.slice ea es.length ec, .slice ba bs.length bc] 27 (0, 0))) := st_block HN4.out hb3 (by omega)
  have hs5 : w2.heap.size < w4.heap.size := (Array.getElem?_eq_some_iff.1 HN5.out).1
  clear g4 hc3 hb3 HD4 HN4 
  have g5 := draw_once (w.heap.size + 1) a len cap 6 w4 (by omega) HD5.out.cur
  cases b1 with
  | true =>
    go_wp2_with (go_at_call 23; fail)
    refine g5.mono ?_
    rintro e w5 ⟨⟨b2, rfl⟩, hc3, hb3⟩
    have HD6 : Hid (Dz a len cap w es bs ea ec ba bc w5) := HD5.out.draw hc3 hb3
    have HN6 : Hid (w5.heap[w2.heap.size]? = some (.cells #[.slice ea es.length ec, .slice ba bs.length bc] 27 (0, 0))) := st_block HN5.out hb3 (by omega)
    have hs6 : w2.heap.size < w5.heap.size := (Array.getElem?_eq_some_iff.1 HN6.out).1
    clear g5 hc3 hb3 HD5 HN5 
    cases b2 with
    | true =>
      go_wp2
      refine cht.region (σ := G3) (ws := (fun s : G3 => [(18, .agg #[.slice ea es.length ec, .slice ba bs.length bc]), (19, .string ⟨#[]⟩), (20, .pointer (some ⟨w.heap.size + 1, 0, none⟩)), (21, .string s.t), (3, .string ⟨#[]⟩), (4, .string s.t)])) (js := [3, 4]) (S := (fun g k W => (k ≤ 1 → Dz a len cap w es bs ea ec ba bc W ∧ W.heap[w2.heap.size]? = some (.cells #[.slice ea es.length ec, .slice ba bs.length bc] 27 (0, 0))) ∧ (g.t.size ≤ 100) ∧ (k = 2 → Tr w.heap.size W es bs ea ec ba bc ∧ Below w.heap.size w W ∧ W.heap[w.heap.size]? = some (.cells #[.slice ea es.length ec, .slice ba bs.length bc] 27 (0, 0))))) [18, 19, 20, 21, 3, 4] ⟨0, 0, ⟨#[]⟩⟩ (by kernel_rfl) (by kernel_rfl) (fun _ => rfl) (by kernel_rfl) (by decide) ⟨fun _ => ⟨HD6.out.step (Below.refl _ _).drew, bstay HN6.out (Below.refl _ _).drew (by have := (Array.getElem?_eq_some_iff.1 HN6.out).1; omega)⟩, by decide, fun h => (by omega)⟩ ?each ?fin
      case each =>
        refine ⟨cht.quiet 1 rfl (by decide) (.inr ⟨4, _, rfl, rfl, ⟨0, .data⟩, by simp, rfl, rfl⟩) (by simp) (fun s => .agg #[.slice ea es.length ec, .slice ba bs.length bc]) (by rintro s _ ⟨⟩; exact dk.sets_on _ (by simp) _ rfl) (fun s k' W hk' hS => by obtain ⟨hZ, hN⟩ := hS.1 hk'; have c0 : W.cell? ⟨w2.heap.size, 0, none⟩ = some (.slice ea es.length ec) := bcell hN rfl; have c1 : W.cell? ⟨w2.heap.size, 1, none⟩ = some (.slice ba bs.length bc) := bcell hN rfl; simp [execOp, go_sem, Act.eval, dk.sets_get, List.lookup, c0, c1]), ?_⟩
        refine ⟨cht.quiet 2 rfl (by decide) (.inl rfl) (by simp) (fun s => .string ⟨#[]⟩) (by rintro s _ ⟨⟩; exact dk.sets_on _ (by simp) _ rfl) (fun s k' W hk' hS => by simp [execOp, go_sem, Act.eval, dk.sets_get, List.lookup]), ?_⟩
        refine ⟨cht.quiet 2 rfl (by decide) (.inl rfl) (by simp) (fun s => .pointer (some ⟨w.heap.size + 1, 0, none⟩)) (by rintro s _ ⟨⟩; exact dk.sets_on _ (by simp) _ rfl) (fun s k' W hk' hS => by simp [execOp, go_sem, Act.eval, dk.sets_get, List.lookup]), ?_⟩
        refine ⟨chd.call 0 [3, 4, 5, 6] [21, 4] (by kernel_rfl) (by kernel_rfl) rfl (by decide) rfl (.inl rfl) (by simp) 24 (fun s => #[.pointer (some ⟨w.heap.size + 1, 0, none⟩)]) (fun s W hS => by exact ⟨by simp [go_sem, Act.eval, dk.sets_get, List.lookup], (dp.draw_key (w.heap.size + 1) a len cap W (hS.1 (by omega)).1.cur).mono fun e w9 hh => by obtain ⟨⟨z9, hz9, rfl⟩, k1, k2⟩ := hh; exact ⟨{ s with t := z9 }, _, rfl, (by simp [chd.But]), (by rintro _ ⟨⟩; exact dk.sets_on _ (by simp) _ rfl), fun h => ⟨(hS.1 (by omega)).1.draw k1 k2, st_block (hS.1 (by omega)).2 k2 (by omega)⟩, (by show z9.size ≤ 100; omega), fun h => (by omega)⟩⟩), ?_⟩
        refine ⟨cht.sto 1 rfl (by decide) rfl (.inr ⟨⟨3, .chain⟩, by simp, rfl, rfl⟩) (by simp) rfl (fun s W hS => by obtain ⟨hZ, hN⟩ := hS.1 (by omega); have q0 : W.cell? ⟨w.heap.size, 0, none⟩ = some (.slice none 0 0) := bcell hZ.rb rfl; have r0 := bfree hZ.rb 0; have q1 : W.cell? ⟨w.heap.size, 1, none⟩ = some (.slice none 0 0) := bcell hZ.rb rfl; have r1 := bfree hZ.rb 1; exact ⟨res2 W w.heap.size (.slice ea es.length ec) (.slice ba bs.length bc), by simp [execOp, go_sem, Act.eval, dk.sets_get, List.lookup, q0, q1, r0, r1, res2], fun h => (by omega), hS.2.1, fun _ => ⟨(hZ.done _ _).1, (hZ.done _ _).2, res2_at hZ.rb ..⟩⟩), ?_⟩
        refine ⟨cht.quiet 2 rfl (by decide) (.inl rfl) (by simp) (fun s => .string ⟨#[]⟩) (by rintro s _ ⟨⟩; exact dk.sets_on _ (by simp) _ rfl) (fun s k' W hk' hS => by simp [execOp, go_sem, Act.eval, dk.sets_get, List.lookup]), ?_⟩
        exact ⟨cht.quiet 2 rfl (by decide) (.inl rfl) (by simp) (fun s => .string s.t) (by rintro s _ ⟨⟩; exact dk.sets_on _ (by simp) _ rfl) (fun s k' W hk' hS => by simp [execOp, go_sem, Act.eval, dk.sets_get, List.lookup]), trivial⟩
      case fin =>
        intro s x5 hS
        have HST : s.t.size ≤ 100 := hS.2.1
        obtain ⟨hd5, hb5, hr5⟩ := hS.2.2 rfl
        have q0 : x5.cell? ⟨w.heap.size, 0, none⟩ = some (.slice ea es.length ec) := bcell hr5 rfl
        have q1 : x5.cell? ⟨w.heap.size, 1, none⟩ = some (.slice ba bs.length bc) := bcell hr5 rfl
        have HD5 : Hid (Tr w.heap.size x5 es bs ea ec ba bc ∧ Below w.heap.size w x5 ∧ w.heap.size < x5.heap.size) := ⟨hd5, hb5, (Array.getElem?_eq_some_iff.1 hr5).1⟩
        obtain ⟨sx, sA, sT⟩ := s
        simp only [dk.sets]
        clear hS hd5 hb5 hr5
        go_wp2
        exact bodyPost_ret (v := .tuple #[.agg #[.slice ea es.length ec, .slice ba bs.length bc], .string ⟨#[]⟩, .string sT]) (by simp [results, Tryz.results5, go_sem, q0, q1]) rfl ⟨⟨es, bs, ea, ec, ba, bc, ⟨#[]⟩, sT, rfl, HSM.out, HD5.out.1, by decide, HST⟩, HD5.out.2⟩
    | false =>
      go_wp2
      refine cht.region (σ := G3) (ws := (fun s : G3 => [(22, .agg #[.slice ea es.length ec, .slice ba bs.length bc]), (23, .string ⟨#[]⟩), (24, .pointer (some ⟨w.heap.size + 1, 0, none⟩)), (25, .string s.t), (3, .string ⟨#[]⟩), (4, .string s.t)])) (js := [3, 4]) (S := (fun g k W => (k ≤ 1 → Dz a len cap w es bs ea ec ba bc W ∧ W.heap[w2.heap.size]? = some (.cells #[.slice ea es.length ec, .slice ba bs.length bc] 27 (0, 0))) ∧ (g.t.size ≤ 100) ∧ (k = 2 → Tr w.heap.size W es bs ea ec ba bc ∧ Below w.heap.size w W ∧ W.heap[w.heap.size]? = some (.cells #[.slice ea es.length ec, .slice ba bs.length bc] 27 (0, 0))))) [22, 23, 24, 25, 3, 4] ⟨0, 0, ⟨#[]⟩⟩ (by kernel_rfl) (by kernel_rfl) (fun _ => rfl) (by kernel_rfl) (by decide) ⟨fun _ => ⟨HD6.out.step (Below.refl _ _).drew, bstay HN6.out (Below.refl _ _).drew (by have := (Array.getElem?_eq_some_iff.1 HN6.out).1; omega)⟩, by decide, fun h => (by omega)⟩ ?each ?fin
      case each =>
        refine ⟨cht.quiet 1 rfl (by decide) (.inr ⟨4, _, rfl, rfl, ⟨0, .data⟩, by simp, rfl, rfl⟩) (by simp) (fun s => .agg #[.slice ea es.length ec, .slice ba bs.length bc]) (by rintro s _ ⟨⟩; exact dk.sets_on _ (by simp) _ rfl) (fun s k' W hk' hS => by obtain ⟨hZ, hN⟩ := hS.1 hk'; have c0 : W.cell? ⟨w2.heap.size, 0, none⟩ = some (.slice ea es.length ec) := bcell hN rfl; have c1 : W.cell? ⟨w2.heap.size, 1, none⟩ = some (.slice ba bs.length bc) := bcell hN rfl; simp [execOp, go_sem, Act.eval, dk.sets_get, List.lookup, c0, c1]), ?_⟩
        refine ⟨cht.quiet 2 rfl (by decide) (.inl rfl) (by simp) (fun s => .string ⟨#[]⟩) (by rintro s _ ⟨⟩; exact dk.sets_on _ (by simp) _ rfl) (fun s k' W hk' hS => by simp [execOp, go_sem, Act.eval, dk.sets_get, List.lookup]), ?_⟩
        refine ⟨cht.quiet 2 rfl (by decide) (.inl rfl) (by simp) (fun s => .pointer (some ⟨w.heap.size + 1, 0, none⟩)) (by rintro s _ ⟨⟩; exact dk.sets_on _ (by simp) _ rfl) (fun s k' W hk' hS => by simp [execOp, go_sem, Act.eval, dk.sets_get, List.lookup]), ?_⟩
        refine ⟨chd.call 0 [3, 4, 5, 6] [25, 4] (by kernel_rfl) (by kernel_rfl) rfl (by decide) rfl (.inl rfl) (by simp) 25 (fun s => #[.pointer (some ⟨w.heap.size + 1, 0, none⟩)]) (fun s W hS => by exact ⟨by simp [go_sem, Act.eval, dk.sets_get, List.lookup], (dpl.draw_plain (w.heap.size + 1) a len cap W (hS.1 (by omega)).1.cur).mono fun e w9 hh => by obtain ⟨⟨z9, hz9, rfl⟩, k1, k2⟩ := hh; exact ⟨{ s with t := z9 }, _, rfl, (by simp [chd.But]), (by rintro _ ⟨⟩; exact dk.sets_on _ (by simp) _ rfl), fun h => ⟨(hS.1 (by omega)).1.draw k1 k2, st_block (hS.1 (by omega)).2 k2 (by omega)⟩, (by show z9.size ≤ 100; omega), fun h => (by omega)⟩⟩), ?_⟩
        refine ⟨cht.sto 1 rfl (by decide) rfl (.inr ⟨⟨3, .chain⟩, by simp, rfl, rfl⟩) (by simp) rfl (fun s W hS => by obtain ⟨hZ, hN⟩ := hS.1 (by omega); have q0 : W.cell? ⟨w.heap.size, 0, none⟩ = some (.slice none 0 0) := bcell hZ.rb rfl; have r0 := bfree hZ.rb 0; have q1 : W.cell? ⟨w.heap.size, 1, none⟩ = some (.slice none 0 0) := bcell hZ.rb rfl; have r1 := bfree hZ.rb 1; exact ⟨res2 W w.heap.size (.slice ea es.length ec) (.slice ba bs.length bc), by simp [execOp, go_sem, Act.eval, dk.sets_get, List.lookup, q0, q1, r0, r1, res2], fun h => (by omega), hS.2.1, fun _ => ⟨(hZ.done _ _).1, (hZ.done _ _).2, res2_at hZ.rb ..⟩⟩), ?_⟩
        refine ⟨cht.quiet 2 rfl (by decide) (.inl rfl) (by simp) (fun s => .string ⟨#[]⟩) (by rintro s _ ⟨⟩; exact dk.sets_on _ (by simp) _ rfl) (fun s k' W hk' hS => by simp [execOp, go_sem, Act.eval, dk.sets_get, List.lookup]), ?_⟩
        exact ⟨cht.quiet 2 rfl (by decide) (.inl rfl) (by simp) (fun s => .string s.t) (by rintro s _ ⟨⟩; exact dk.sets_on _ (by simp) _ rfl) (fun s k' W hk' hS => by simp [execOp, go_sem, Act.eval, dk.sets_get, List.lookup]), trivial⟩
      case fin =>
        intro s x5 hS
        have HST : s.t.size ≤ 100 := hS.2.1
        obtain ⟨hd5, hb5, hr5⟩ := hS.2.2 rfl
        have q0 : x5.cell? ⟨w.heap.size, 0, none⟩ = some (.slice ea es.length ec) := bcell hr5 rfl
        have q1 : x5.cell? ⟨w.heap.size, 1, none⟩ = some (.slice ba bs.length bc) := bcell hr5 rfl
        have HD5 : Hid (Tr w.heap.size x5 es bs ea ec ba bc ∧ Below w.heap.size w x5 ∧ w.heap.size < x5.heap.size) := ⟨hd5, hb5, (Array.getElem?_eq_some_iff.1 hr5).1⟩
        obtain ⟨sx, sA, sT⟩ := s
        simp only [dk.sets]
        clear hS hd5 hb5 hr5
        go_wp2
        exact bodyPost_ret (v := .tuple #[.agg #[.slice ea es.length ec, .slice ba bs.length bc], .string ⟨#[]⟩, .string sT]) (by simp [results, Tryz.results5, go_sem, q0, q1]) rfl ⟨⟨es, bs, ea, ec, ba, bc, ⟨#[]⟩, sT, rfl, HSM.out, HD5.out.1, by decide, HST⟩, HD5.out.2⟩
  | false =>
    go_wp2_with (go_at_call 23; fail)
    refine g5.mono ?_
    rintro e w5 ⟨⟨b2, rfl⟩, hc3, hb3⟩
    have HD6 : Hid (Dz a len cap w es bs ea ec ba bc w5) := HD5.out.draw hc3 hb3
    have HN6 : Hid (w5.heap[w2.heap.size]? = some (.cells #[.slice ea es.length ec, .slice ba bs.length bc] 27 (0, 0))) := st_block HN5.out hb3 (by omega)
    have hs6 : w2.heap.size < w5.heap.size := (Array.getElem?_eq_some_iff.1 HN6.out).1
    clear g5 hc3 hb3 HD5 HN5 
    cases b2 with
    | true =>
      go_wp2
      refine cht.region (σ := G3) (ws := (fun s : G3 => [(18, .agg #[.slice ea es.length ec, .slice ba bs.length bc]), (19, .string xx), (20, .pointer (some ⟨w.heap.size + 1, 0, none⟩)), (21, .string s.t), (3, .string xx), (4, .string s.t)])) (js := [3, 4]) (S := (fun g k W => (k ≤ 1 → Dz a len cap w es bs ea ec ba bc W ∧ W.heap[w2.heap.size]? = some (.cells #[.slice ea es.length ec, .slice ba bs.length bc] 27 (0, 0))) ∧ (g.t.size ≤ 100) ∧ (k = 2 → Tr w.heap.size W es bs ea ec ba bc ∧ Below w.heap.size w W ∧ W.heap[w.heap.size]? = some (.cells #[.slice ea es.length ec, .slice ba bs.length bc] 27 (0, 0))))) [18, 19, 20, 21, 3, 4] ⟨0, 0, ⟨#[]⟩⟩ (by kernel_rfl) (by kernel_rfl) (fun _ => rfl) (by kernel_rfl) (by decide) ⟨fun _ => ⟨HD6.out.step (Below.refl _ _).drew, bstay HN6.out (Below.refl _ _).drew (by have := (Array.getElem?_eq_some_iff.1 HN6.out).1; omega)⟩, by decide, fun h => (by omega)⟩ ?each ?fin
      case each =>
        refine ⟨cht.quiet 1 rfl (by decide) (.inr ⟨4, _, rfl, rfl, ⟨0, .data⟩, by simp, rfl, rfl⟩) (by simp) (fun s => .agg #[.slice ea es.length ec, .slice ba bs.length bc]) (by rintro s _ ⟨⟩; exact dk.sets_on _ (by simp) _ rfl) (fun s k' W hk' hS => by obtain ⟨hZ, hN⟩ := hS.1 hk'; have c0 : W.cell? ⟨w2.heap.size, 0, none⟩ = some (.slice ea es.length ec) := bcell hN rfl; have c1 : W.cell? ⟨w2.heap.size, 1, none⟩ = some (.slice ba bs.length bc) := bcell hN rfl; simp [execOp, go_sem, Act.eval, dk.sets_get, List.lookup, c0, c1]), ?_⟩
        refine ⟨cht.quiet 2 rfl (by decide) (.inl rfl) (by simp) (fun s => .string xx) (by rintro s _ ⟨⟩; exact dk.sets_on _ (by simp) _ rfl) (fun s k' W hk' hS => by simp [execOp, go_sem, Act.eval, dk.sets_get, List.lookup]), ?_⟩
        refine ⟨cht.quiet 2 rfl (by decide) (.inl rfl) (by simp) (fun s => .pointer (some ⟨w.heap.size + 1, 0, none⟩)) (by rintro s _ ⟨⟩; exact dk.sets_on _ (by simp) _ rfl) (fun s k' W hk' hS => by simp [execOp, go_sem, Act.eval, dk.sets_get, List.lookup]), ?_⟩
        refine ⟨chd.call 0 [3, 4, 5, 6] [21, 4] (by kernel_rfl) (by kernel_rfl) rfl (by decide) rfl (.inl rfl) (by simp) 24 (fun s => #[.pointer (some ⟨w.heap.size + 1, 0, none⟩)]) (fun s W hS => by exact ⟨by simp [go_sem, Act.eval, dk.sets_get, List.lookup], (dp.draw_key (w.heap.size + 1) a len cap W (hS.1 (by omega)).1.cur).mono fun e w9 hh => by obtain ⟨⟨z9, hz9, rfl⟩, k1, k2⟩ := hh; exact ⟨{ s with t := z9 }, _, rfl, (by simp [chd.But]), (by rintro _ ⟨⟩; exact dk.sets_on _ (by simp) _ rfl), fun h => ⟨(hS.1 (by omega)).1.draw k1 k2, st_block (hS.1 (by omega)).2 k2 (by omega)⟩, (by show z9.size ≤ 100; omega), fun h => (by omega)⟩⟩), ?_⟩
        refine ⟨cht.sto 1 rfl (by decide) rfl (.inr ⟨⟨3, .chain⟩, by simp, rfl, rfl⟩) (by simp) rfl (fun s W hS => by obtain ⟨hZ, hN⟩ := hS.1 (by omega); have q0 : W.cell? ⟨w.heap.size, 0, none⟩ = some (.slice none 0 0) := bcell hZ.rb rfl; have r0 := bfree hZ.rb 0; have q1 : W.cell? ⟨w.heap.size, 1, none⟩ = some (.slice none 0 0) := bcell hZ.rb rfl; have r1 := bfree hZ.rb 1; exact ⟨res2 W w.heap.size (.slice ea es.length ec) (.slice ba bs.length bc), by simp [execOp, go_sem, Act.eval, dk.sets_get, List.lookup, q0, q1, r0, r1, res2], fun h => (by omega), hS.2.1, fun _ => ⟨(hZ.done _ _).1, (hZ.done _ _).2, res2_at hZ.rb ..⟩⟩), ?_⟩
        refine ⟨cht.quiet 2 rfl (by decide) (.inl rfl) (by simp) (fun s => .string xx) (by rintro s _ ⟨⟩; exact dk.sets_on _ (by simp) _ rfl) (fun s k' W hk' hS => by simp [execOp, go_sem, Act.eval, dk.sets_get, List.lookup]), ?_⟩
        exact ⟨cht.quiet 2 rfl (by decide) (.inl rfl) (by simp) (fun s => .string s.t) (by rintro s _ ⟨⟩; exact dk.sets_on _ (by simp) _ rfl) (fun s k' W hk' hS => by simp [execOp, go_sem, Act.eval, dk.sets_get, List.lookup]), trivial⟩
      case fin =>
        intro s x5 hS
        have HST : s.t.size ≤ 100 := hS.2.1
        obtain ⟨hd5, hb5, hr5⟩ := hS.2.2 rfl
        have q0 : x5.cell? ⟨w.heap.size, 0, none⟩ = some (.slice ea es.length ec) := bcell hr5 rfl
        have q1 : x5.cell? ⟨w.heap.size, 1, none⟩ = some (.slice ba bs.length bc) := bcell hr5 rfl
        have HD5 : Hid (Tr w.heap.size x5 es bs ea ec ba bc ∧ Below w.heap.size w x5 ∧ w.heap.size < x5.heap.size) := ⟨hd5, hb5, (Array.getElem?_eq_some_iff.1 hr5).1⟩
        obtain ⟨sx, sA, sT⟩ := s
        simp only [dk.sets]
        clear hS hd5 hb5 hr5
        go_wp2
        exact bodyPost_ret (v := .tuple #[.agg #[.slice ea es.length ec, .slice ba bs.length bc], .string xx, .string sT]) (by simp [results, Tryz.results5, go_sem, q0, q1]) rfl ⟨⟨es, bs, ea, ec, ba, bc, xx, sT, rfl, HSM.out, HD5.out.1, hxx, HST⟩, HD5.out.2⟩
    | false =>
      go_wp2
      refine cht.region (σ := G3) (ws := (fun s : G3 => [(22, .agg #[.slice ea es.length ec, .slice ba bs.length bc]), (23, .string xx), (24, .pointer (some ⟨w.heap.size + 1, 0, none⟩)), (25, .string s.t), (3, .string xx), (4, .string s.t)])) (js := [3, 4]) (S := (fun g k W => (k ≤ 1 → Dz a len cap w es bs ea ec ba bc W ∧ W.heap[w2.heap.size]? = some (.cells #[.slice ea es.length ec, .slice ba bs.length bc] 27 (0, 0))) ∧ (g.t.size ≤ 100) ∧ (k = 2 → Tr w.heap.size W es bs ea ec ba bc ∧ Below w.heap.size w W ∧ W.heap[w.heap.size]? = some (.cells #[.slice ea es.length ec, .slice ba bs.length bc] 27 (0, 0))))) [22, 23, 24, 25, 3, 4] ⟨0, 0, ⟨#[]⟩⟩ (by kernel_rfl) (by kernel_rfl) (fun _ => rfl) (by kernel_rfl) (by decide) ⟨fun _ => ⟨HD6.out.step (Below.refl _ _).drew, bstay HN6.out (Below.refl _ _).drew (by have := (Array.getElem?_eq_some_iff.1 HN6.out).1; omega)⟩, by decide, fun h => (by omega)⟩ ?each ?fin
      case each =>
        refine ⟨cht.quiet 1 rfl (by decide) (.inr ⟨4, _, rfl, rfl, ⟨0, .data⟩, by simp, rfl, rfl⟩) (by simp) (fun s => .agg #[.slice ea es.length ec, .slice ba bs.length bc]) (by rintro s _ ⟨⟩; exact dk.sets_on _ (by simp) _ rfl) (fun s k' W hk' hS => by obtain ⟨hZ, hN⟩ := hS.1 hk'; have c0 : W.cell? ⟨w2.heap.size, 0, none⟩ = some (.slice ea es.length ec) := bcell hN rfl; have c1 : W.cell? ⟨w2.heap.size, 1, none⟩ = some (.slice ba bs.length bc) := bcell hN rfl; simp [execOp, go_sem, Act.eval, dk.sets_get, List.lookup, c0, c1]), ?_⟩
        refine ⟨cht.quiet 2 rfl (by decide) (.inl rfl) (by simp) (fun s => .string xx) (by rintro s _ ⟨⟩; exact dk.sets_on _ (by simp) _ rfl) (fun s k' W hk' hS => by simp [execOp, go_sem, Act.eval, dk.sets_get, List.lookup]), ?_⟩
        refine ⟨cht.quiet 2 rfl (by decide) (.inl rfl) (by simp) (fun s => .pointer (some ⟨w.heap.size + 1, 0, none⟩)) (by rintro s _ ⟨⟩; exact dk.sets_on _ (by simp) _ rfl) (fun s k' W hk' hS => by simp [execOp, go_sem, Act.eval, dk.sets_get, List.lookup]), ?_⟩
        refine ⟨chd.call 0 [3, 4, 5, 6] [25, 4] (by kernel_rfl) (by kernel_rfl) rfl (by decide) rfl (.inl rfl) (by simp) 25 (fun s => #[.pointer (some ⟨w.heap.size + 1, 0, none⟩)]) (fun s W hS => by exact ⟨by simp [go_sem, Act.eval, dk.sets_get, List.lookup], (dpl.draw_plain (w.heap.size + 1) a len cap W (hS.1 (by omega)).1.cur).mono fun e w9 hh => by obtain ⟨⟨z9, hz9, rfl⟩, k1, k2⟩ := hh; exact ⟨{ s with t := z9 }, _, rfl, (by simp [chd.But]), (by rintro _ ⟨⟩; exact dk.sets_on _ (by simp) _ rfl), fun h => ⟨(hS.1 (by omega)).1.draw k1 k2, st_block (hS.1 (by omega)).2 k2 (by omega)⟩, (by show z9.size ≤ 100; omega), fun h => (by omega)⟩⟩), ?_⟩
        refine ⟨cht.sto 1 rfl (by decide) rfl (.inr ⟨⟨3, .chain⟩, by simp, rfl, rfl⟩) (by simp) rfl (fun s W hS => by obtain ⟨hZ, hN⟩ := hS.1 (by omega); have q0 : W.cell? ⟨w.heap.size, 0, none⟩ = some (.slice none 0 0) := bcell hZ.rb rfl; have r0 := bfree hZ.rb 0; have q1 : W.cell? ⟨w.heap.size, 1, none⟩ = some (.slice none 0 0) := bcell hZ.rb rfl; have r1 := bfree hZ.rb 1; exact ⟨res2 W w.heap.size (.slice ea es.length ec) (.slice ba bs.length bc), by simp [execOp, go_sem, Act.eval, dk.sets_get, List.lookup, q0, q1, r0, r1, res2], fun h => (by omega), hS.2.1, fun _ => ⟨(hZ.done _ _).1, (hZ.done _ _).2, res2_at hZ.rb ..⟩⟩), ?_⟩
        refine ⟨cht.quiet 2 rfl (by decide) (.inl rfl) (by simp) (fun s => .string xx) (by rintro s _ ⟨⟩; exact dk.sets_on _ (by simp) _ rfl) (fun s k' W hk' hS => by simp [execOp, go_sem, Act.eval, dk.sets_get, List.lookup]), ?_⟩
        exact ⟨cht.quiet 2 rfl (by decide) (.inl rfl) (by simp) (fun s => .string s.t) (by rintro s _ ⟨⟩; exact dk.sets_on _ (by simp) _ rfl) (fun s k' W hk' hS => by simp [execOp, go_sem, Act.eval, dk.sets_get, List.lookup]), trivial⟩
      case fin =>
        intro s x5 hS
        have HST : s.t.size ≤ 100 := hS.2.1
        obtain ⟨hd5, hb5, hr5⟩ := hS.2.2 rfl
        have q0 : x5.cell? ⟨w.heap.size, 0, none⟩ = some (.slice ea es.length ec) := bcell hr5 rfl
        have q1 : x5.cell? ⟨w.heap.size, 1, none⟩ = some (.slice ba bs.length bc) := bcell hr5 rfl
        have HD5 : Hid (Tr w.heap.size x5 es bs ea ec ba bc ∧ Below w.heap.size w x5 ∧ w.heap.size < x5.heap.size) := ⟨hd5, hb5, (Array.getElem?_eq_some_iff.1 hr5).1⟩
        obtain ⟨sx, sA, sT⟩ := s
        simp only [dk.sets]
        clear hS hd5 hb5 hr5
        go_wp2
        exact bodyPost_ret (v := .tuple #[.agg #[.slice ea es.length ec, .slice ba bs.length bc], .string xx, .string sT]) (by simp [results, Tryz.results5, go_sem, q0, q1]) rfl ⟨⟨es, bs, ea, ec, ba, bc, xx, sT, rfl, HSM.out, HD5.out.1, hxx, HST⟩, HD5.out.2⟩
end Go.Proofs.YtnooibeohdfcmaaGreatDoor.drs

/- Route: the queues of what fits, each once, ascending: put one by one, or sorted and each but once. -/
namespace Go.Proofs.YtnooibeohdfcmaaGreatDoor.rtp
open Go.ChangeShapes Go.WideShapes Go.ChangeAt Go.RowKit Go.Proofs.YtnooibeohdfcmaaGreatDoor.rc Go.Proofs.YtnooibeohdfcmaaGreatDoor.ro
set_option linter.unusedVariables false

def Asc (l : List ByteArray) : Prop := l.Pairwise fun a b => lt a b = true
def posT : List ByteArray → ByteArray → Nat
  | [], _ => 0
  | e :: l, r => if lt e r then posT l r + 1 else 0
theorem posT_eq : ∀ (l : List ByteArray) (r : ByteArray) (p : Nat), p ≤ l.length → (∀ (i : Nat) a, i < p → l[i]? = some a → lt a r = true) → (∀ a, l[p]? = some a → lt a r = false) → posT l r = p
  | [], r, p, h, _, _ => by simp at h; subst h; rfl
  | e :: l, r, 0, _, _, h3 => by
    unfold posT
    rw [h3 e rfl]
    rfl
  | e :: l, r, p + 1, h1, h2, h3 => by
    unfold posT
    rw [h2 0 e (by omega) rfl, if_pos rfl, posT_eq l r p (by simp at h1; omega) (fun i a hi ha => h2 (i + 1) a (by omega) ha) (fun a ha => h3 a ha)]
noncomputable def putT (l : List ByteArray) (s : ByteArray) : List ByteArray := @ite _ (l[posT l s]? = some s) (Classical.propDecidable _) l (l.take (posT l s) ++ s :: l.drop (posT l s))
theorem putT_there {l : List ByteArray} {s : ByteArray} {p : Nat} (h : posT l s = p) (hm : l[p]? = some s) : putT l s = l := by
  unfold putT
  rw [h]
  exact @if_pos _ (Classical.propDecidable _) hm _ _ _
theorem putT_new {l : List ByteArray} {s : ByteArray} {p : Nat} (h : posT l s = p) (hm : ¬ l[p]? = some s) : putT l s = l.take p ++ s :: l.drop p := by
  unfold putT
  rw [h]
  exact @if_neg _ (Classical.propDecidable _) hm _ _ _
theorem putT_nil (s : ByteArray) : putT [] s = [s] := putT_new (p := 0) rfl (by simp)
theorem putT_lt {a s : ByteArray} (l : List ByteArray) (h : lt a s = true) : putT (a :: l) s = a :: putT l s := by
  have hp : posT (a :: l) s = posT l s + 1 := by show (if lt a s then posT l s + 1 else 0) = _; rw [h]; rfl
  by_cases hm : l[posT l s]? = some s
  · rw [putT_there hp (by simpa using hm), putT_there rfl hm]
  · rw [putT_new hp (by simpa using hm), putT_new rfl hm]
    rfl
theorem putT_eq (a : ByteArray) (l : List ByteArray) : putT (a :: l) a = a :: l := putT_there (p := 0) (by show (if lt a a then _ else 0) = _; rw [lt_irrefl]; rfl) rfl
theorem putT_gt {a s : ByteArray} (l : List ByteArray) (h : lt a s = false) (hne : a ≠ s) : putT (a :: l) s = s :: a :: l := putT_new (p := 0) (by show (if lt a s then _ else 0) = _; rw [h]; rfl) (by simpa using hne)
theorem putT_mem : ∀ {l : List ByteArray} {s x : ByteArray}, x ∈ putT l s ↔ x ∈ l ∨ x = s
  | [], s, x => by rw [putT_nil]; simp
  | a :: l, s, x => by
    cases h : lt a s with
    | true => rw [putT_lt l h, List.mem_cons, putT_mem, List.mem_cons, or_assoc]
    | false =>
      by_cases e : a = s
      · subst e; rw [putT_eq]; constructor
        · exact .inl
        · rintro (h1 | h1)
          · exact h1
          · rw [h1]; exact List.mem_cons_self ..
      · rw [putT_gt l h e]; simp only [List.mem_cons]
        constructor
        · rintro (h1 | h1 | h1)
          · exact .inr h1
          · exact .inl (.inl h1)
          · exact .inl (.inr h1)
        · rintro ((h1 | h1) | h1)
          · exact .inr (.inl h1)
          · exact .inr (.inr h1)
          · exact .inl h1
theorem putT_asc : ∀ {l : List ByteArray} {s : ByteArray}, Asc l → Asc (putT l s)
  | [], s, _ => by rw [putT_nil]; exact List.pairwise_singleton _ _
  | a :: l, s, hA => by
    obtain ⟨h1, h2⟩ := List.pairwise_cons.1 hA
    cases h : lt a s with
    | true =>
      rw [putT_lt l h]
      refine List.pairwise_cons.2 ⟨fun x hx => ?_, putT_asc h2⟩
      rcases putT_mem.1 hx with hx | hx
      · exact h1 x hx
      · rw [hx]; exact h
    | false =>
      by_cases e : a = s
      · subst e; rw [putT_eq]; exact hA
      · rw [putT_gt l h e]
        have h3 := lt_tri h e
        refine List.pairwise_cons.2 ⟨fun x hx => ?_, hA⟩
        rcases List.mem_cons.1 hx with hx | hx
        · rw [hx]; exact h3
        · exact lt_trans h3 (h1 x hx)
/-- put one by one -/
noncomputable def puts (A : List ByteArray) : List ByteArray := A.foldl putT []
theorem puts_app (A : List ByteArray) (p : ByteArray) : puts (A ++ [p]) = putT (puts A) p := by simp [puts, List.foldl_append]
theorem fold_asc : ∀ (A L : List ByteArray), Asc L → Asc (A.foldl putT L)
  | [], L, h => h
  | a :: A, L, h => fold_asc A _ (putT_asc h)
theorem fold_mem : ∀ (A L : List ByteArray) (x : ByteArray), x ∈ A.foldl putT L ↔ x ∈ L ∨ x ∈ A
  | [], L, x => by simp
  | a :: A, L, x => by rw [List.foldl_cons, fold_mem A, putT_mem, List.mem_cons, or_assoc]
theorem puts_asc (A : List ByteArray) : Asc (puts A) := fold_asc A [] List.Pairwise.nil
theorem puts_mem (A : List ByteArray) (x : ByteArray) : x ∈ puts A ↔ x ∈ A := by unfold puts; rw [fold_mem]; simp
theorem fold_len : ∀ (A L : List ByteArray), (A.foldl putT L).length ≤ L.length + A.length
  | [], L => by simp
  | a :: A, L => by
    have h1 := fold_len A (putT L a)
    have h2 : (putT L a).length ≤ L.length + 1 := by
      by_cases hm : L[posT L a]? = some a
      · rw [putT_there rfl hm]; omega
      · rw [putT_new rfl hm]; simp; omega
    simp only [List.foldl_cons, List.length_cons]
    omega
theorem puts_len (A : List ByteArray) : (puts A).length ≤ A.length := by have := fold_len A []; simpa [puts] using this
end Go.Proofs.YtnooibeohdfcmaaGreatDoor.rtp

/- append(append(append([]T{}, a...), x), b...) given to a variable, in one region that draws its order: the row that it leaves. -/
namespace Go.Proofs.YtnooibeohdfcmaaGreatDoor.tas
open Go.ChangeShapes Go.WideShapes Go.ChangeAt Go.RowKit Go.Proofs.YtnooibeohdfcmaaGreatDoor.fl
set_option linter.unusedVariables false

/-- what is drawn: the empty row, the row behind the first append, the new one's place, the rows behind the other two -/
structure G where
  e0 : Nat
  v1 : Value
  h : Nat
  v2 : Value
  v3 : Value
  v4 : Value
/-- the world ahead, the type and its cells, the cells ahead, of the new one and behind, how many ahead and behind -/
structure Pr where
  W0 : World
  T : TypeId
  n : Nat
  xs : List Value
  ms : List Value
  ys : List Value
  k : Nat
  m : Nat
structure D (p : Pr) (g : G) (c0 c1 c2 c3 c4 c5 : Bool) (W : World) : Prop where
  bel : Below p.W0.heap.size p.W0 W
  at0 : c0 = true → c1 = false → W.ownsRow p.W0.heap.size p.T p.n (.slice (some ⟨g.e0, 0, none⟩) 0 0) 0 []
  at1 : c1 = true → c0 = true ∧ (c3 = false → W.ownsRow p.W0.heap.size p.T p.n g.v1 p.k p.xs)
  at2 : c2 = true → c3 = false → W.heap[g.h]? = some (.cells p.ms.toArray p.T (0, 0)) ∧ (c0 = true → c1 = false → g.e0 ≠ g.h) ∧ (c1 = true → g.v1.ownBlock ≠ some g.h)
  at3 : c3 = true → c1 = true ∧ c2 = true ∧ (c4 = false → W.ownsRow p.W0.heap.size p.T p.n g.v2 (p.k + 1) (p.xs ++ p.ms))
  at4 : c4 = true → c3 = true ∧ W.ownsRow p.W0.heap.size p.T p.n g.v3 (p.k + 1 + p.m) (p.xs ++ p.ms ++ p.ys)
  at5 : c5 = true → c4 = true ∧ g.v4 = g.v3
section
variable {p : Pr} {g : G} {c0 c1 c2 c3 c4 c5 : Bool} {W W' : World} {v : Value}
theorem D.size (h : D p g c0 c1 c2 c3 c4 c5 W) : p.W0.heap.size ≤ W.heap.size := h.bel.size
theorem D.old (h : D p g c0 c1 c2 c3 c4 c5 W) {b : Nat} {o : Obj} (hb : p.W0.heap[b]? = some o) : W.heap[b]? = some o := bstay hb h.bel (Array.getElem?_eq_some_iff.1 hb).1
theorem D.below (h : D p g c0 c1 c2 c3 c4 c5 W) : Below p.W0.heap.size p.W0 W := h.bel
theorem no31 (h : D p g c0 false c2 c3 c4 c5 W) : c3 = false := by
  cases c3 with
  | false => rfl
  | true => have := (h.at3 rfl).1; cases this
theorem no32 (h : D p g c0 c1 false c3 c4 c5 W) : c3 = false := by
  cases c3 with
  | false => rfl
  | true => have := (h.at3 rfl).2.1; cases this
theorem no4 (h : D p g c0 c1 c2 false c4 c5 W) : c4 = false := by
  cases c4 with
  | false => rfl
  | true => have := (h.at4 rfl).1; cases this
theorem no5 (h : D p g c0 c1 c2 c3 false c5 W) : c5 = false := by
  cases c5 with
  | false => rfl
  | true => have := (h.at5 rfl).1; cases this
theorem no1 (h : D p g false c1 c2 c3 c4 c5 W) : c1 = false := by
  cases c1 with
  | false => rfl
  | true => have := (h.at1 rfl).1; cases this
/-- the empty row is made -/
theorem D.s0 (h : D p g false c1 c2 c3 c4 c5 W) : D p { g with e0 := W.heap.size } true c1 c2 c3 c4 c5 (W.alloc (.cells #[] p.T)) := by
  obtain rfl := no1 h
  obtain rfl := no31 h
  obtain rfl := no4 h
  obtain rfl := no5 h
  have hs := h.size
  refine ⟨h.below.alloc hs _, fun _ _ => World.ownsRow_made W #[] 0 hs (by unfold maxLen; omega) (by simp), fun e => (by cases e), fun e _ => ?_, fun e => (by cases e), fun e => (by cases e), fun e => (by cases e)⟩
  obtain ⟨h1, _, h3⟩ := h.at2 e rfl
  have := (Array.getElem?_eq_some_iff.1 h1).1
  exact ⟨bold h1 _, fun _ _ => (by show W.heap.size ≠ g.h; omega), h3⟩
/-- the first append -/
theorem D.s1 (h : D p g c0 false c2 c3 c4 c5 W) (h0 : c0 = true) (hg : W.grownBy W' (some g.e0)) (ho : W'.ownsRow p.W0.heap.size p.T p.n v p.k p.xs) (hat : v.ownBlock = some g.e0 ∨ v.ownBlock = some W.heap.size) : D p { g with v1 := v } c0 true c2 c3 c4 c5 W' := by
  obtain rfl := no31 h
  obtain rfl := no4 h
  obtain rfl := no5 h
  have hs := h.size
  have he := ((h.at0 h0 rfl).lt g.e0 rfl)
  refine ⟨h.below.grown hg hs (fun b hb => by cases hb; exact he.1), fun _ e => (by cases e), fun _ => ⟨h0, fun _ => ho⟩, fun e _ => ?_, fun e => (by cases e), fun e => (by cases e), fun e => (by cases e)⟩
  obtain ⟨h1, h2, _⟩ := h.at2 e rfl
  have hne := h2 h0 rfl
  have hlt := (Array.getElem?_eq_some_iff.1 h1).1
  refine ⟨(hg.block _ hlt (fun e => by have := Option.some.inj e; omega)).trans h1, fun _ e => (by cases e), fun _ e => ?_⟩
  have e' : v.ownBlock = some g.h := e
  rcases hat with ha | ha
  · rw [ha] at e'; have := Option.some.inj e'; omega
  · rw [ha] at e'; simp at e'; omega
/-- the new one's place -/
theorem D.s2 (h : D p g c0 c1 false c3 c4 c5 W) : D p { g with h := W.heap.size } c0 c1 true c3 c4 c5 (W.alloc (.cells p.ms.toArray p.T)) := by
  obtain rfl := no32 h
  obtain rfl := no4 h
  obtain rfl := no5 h
  have hs := h.size
  refine ⟨h.below.alloc hs _, fun a b => (h.at0 a b).alloc _, fun a => ⟨(h.at1 a).1, fun b => ((h.at1 a).2 b).alloc _⟩, fun _ _ => ⟨bnew W _ _, fun a b => ?_, fun a e => ?_⟩, fun e => (by cases e), fun e => (by cases e), fun e => (by cases e)⟩
  · have := ((h.at0 a b).lt g.e0 rfl).2
    show g.e0 ≠ W.heap.size
    omega
  · have := (((h.at1 a).2 rfl).lt _ e).2
    have : W.heap.size < W.heap.size := this
    omega
/-- the second append -/
theorem D.s3 (h : D p g c0 c1 c2 false c4 c5 W) (h1 : c1 = true) (h2 : c2 = true) (hg : W.grownBy W' g.v1.ownBlock) (ho : W'.ownsRow p.W0.heap.size p.T p.n v (p.k + 1) (p.xs ++ p.ms)) : D p { g with v2 := v } c0 c1 c2 true c4 c5 W' := by
  obtain rfl := no4 h
  obtain rfl := no5 h
  have hs := h.size
  have he := ((h.at1 h1).2 rfl).lt
  exact ⟨h.below.grown hg hs (fun b hb => (he b hb).1), fun a b => (by rw [h1] at b; cases b), fun a => ⟨(h.at1 a).1, fun e => (by cases e)⟩, fun _ e => (by cases e), fun _ => ⟨h1, h2, fun _ => ho⟩, fun e => (by cases e), fun e => (by cases e)⟩
/-- the third append -/
theorem D.s4 (h : D p g c0 c1 c2 c3 false c5 W) (h3 : c3 = true) (hg : W.grownBy W' g.v2.ownBlock) (ho : W'.ownsRow p.W0.heap.size p.T p.n v (p.k + 1 + p.m) (p.xs ++ p.ms ++ p.ys)) : D p { g with v3 := v } c0 c1 c2 c3 true c5 W' := by
  obtain rfl := no5 h
  have hs := h.size
  have he := ((h.at3 h3).2.2 rfl).lt
  obtain ⟨l1, l2, _⟩ := h.at3 h3
  exact ⟨h.below.grown hg hs (fun b hb => (he b hb).1), fun a b => (by rw [l1] at b; cases b), fun a => ⟨(h.at1 a).1, fun e => (by rw [h3] at e; cases e)⟩, fun _ e => (by rw [h3] at e; cases e), fun _ => ⟨l1, l2, fun e => (by cases e)⟩, fun _ => ⟨h3, ho⟩, fun e => (by cases e)⟩
/-- it is given to the variable -/
theorem D.s5 (h : D p g c0 c1 c2 c3 c4 false W) (h4 : c4 = true) : D p { g with v4 := g.v3 } c0 c1 c2 c3 c4 true W := ⟨h.bel, h.at0, h.at1, h.at2, h.at3, h.at4, fun _ => ⟨h4, rfl⟩⟩
end
theorem add0 (g j : Nat) : (⟨g, 0, none⟩ : Addr).add j = ⟨g, j, none⟩ := by unfold Addr.add; split <;> simp_all
theorem more_on (L : Nat → Bool) (i : Nat) : dn.more L i i = true := by unfold dn.more; rw [if_pos rfl]
theorem more_off (L : Nat → Bool) {i j : Nat} (h : j ≠ i) : dn.more L i j = L j := by unfold dn.more; rw [if_neg h]
/-- the numbers of the six operations that count -/
structure J where
  j0 : Nat
  j1 : Nat
  j2 : Nat
  j3 : Nat
  j4 : Nat
  j5 : Nat
def J.up (x : J) : Prop := x.j0 < x.j1 ∧ x.j1 < x.j2 ∧ x.j2 < x.j3 ∧ x.j3 < x.j4 ∧ x.j4 < x.j5
def C (p : Pr) (x : J) (g : G) (L : Nat → Bool) (W : World) : Prop := D p g (L x.j0) (L x.j1) (L x.j2) (L x.j3) (L x.j4) (L x.j5) W
theorem C.d {p : Pr} {x : J} {g : G} {L : Nat → Bool} {W : World} (h : C p x g L W) : D p g (L x.j0) (L x.j1) (L x.j2) (L x.j3) (L x.j4) (L x.j5) W := h
section
variable {p : Pr} {x : J} {ws : G → List (Nat × Value)} {act : Act} {Q : Exit → Act → World → Prop} {o : Oper}
theorem quiet {i : Nat} (hi : i ≠ x.j0 ∧ i ≠ x.j1 ∧ i ≠ x.j2 ∧ i ≠ x.j3 ∧ i ≠ x.j4 ∧ i ≠ x.j5) (hsel : ∀ cs b, o.op ≠ .select cs b) (u : Value) (hd : ∀ s d, o.dst = some d → (dk.sets act (ws s)).tmps[d]? = some u)
    (hrun : ∀ s W, (∀ (b : Nat) (o : Obj), p.W0.heap[b]? = some o → W.heap[b]? = some o) → (execOp (dk.sets act (ws s)).eval o).run Tryz.prog W = .ok (.value u) W) : gh.Step Tryz.prog (fun s => dk.sets act (ws s)) (C p x) Q i o := by
  refine gh.step_val hsel fun s L W hdp h0 hC => ⟨s, u, gh.Agree.refl _ _, hd s, ?_⟩
  rw [hrun s W (fun b o hb => hC.d.old hb)]
  refine ⟨rfl, ?_⟩
  obtain ⟨i0, i1, i2, i3, i4, i5⟩ := hi
  unfold C
  rw [more_off L i0.symm, more_off L i1.symm, more_off L i2.symm, more_off L i3.symm, more_off L i4.symm, more_off L i5.symm]
  exact hC
theorem st0 (hx : x.up) {d idx : Nat} (hsel : ∀ cs b, o.op ≠ .select cs b) (hdst : o.dst = some d) (hsz : d < act.tmps.size) (ld : ∀ g, (ws g).lookup d = some (.slice (some ⟨g.e0, 0, none⟩) 0 0)) (hidx : ∀ g, ((ws g)[idx]?.map (·.1)) = some d) (hset : ∀ g (e : Nat), ws { g with e0 := e } = (ws g).set idx (d, .slice (some ⟨e, 0, none⟩) 0 0))
    (hrun : ∀ s W, (execOp (dk.sets act (ws s)).eval o).run Tryz.prog W = .ok (.value (.slice (some ⟨W.heap.size, 0, none⟩) 0 0)) (W.alloc (.cells #[] p.T))) : gh.Step Tryz.prog (fun s => dk.sets act (ws s)) (C p x) Q x.j0 o := by
  refine gh.step_val hsel fun s L W hdp h0 hC => ⟨{ s with e0 := W.heap.size }, .slice (some ⟨W.heap.size, 0, none⟩) 0 0, dk.agree_sets idx d _ hdst (hidx s) (hset s _), (fun d' hd => by rw [hdst] at hd; cases hd; exact dk.sets_on _ hsz _ (ld _)), ?_⟩
  rw [hrun]
  refine ⟨rfl, ?_⟩
  obtain ⟨u0, u1, u2, u3, u4⟩ := hx
  have hd := hC.d
  rw [h0] at hd
  unfold C
  rw [more_on, more_off L (show x.j1 ≠ x.j0 by omega), more_off L (show x.j2 ≠ x.j0 by omega), more_off L (show x.j3 ≠ x.j0 by omega), more_off L (show x.j4 ≠ x.j0 by omega), more_off L (show x.j5 ≠ x.j0 by omega)]
  exact hd.s0
theorem st2 (hx : x.up) {d idx : Nat} (hsel : ∀ cs b, o.op ≠ .select cs b) (hdst : o.dst = some d) (hsz : d < act.tmps.size) (ld : ∀ g, (ws g).lookup d = some (.slice (some ⟨g.h, 0, none⟩) 1 1)) (hidx : ∀ g, ((ws g)[idx]?.map (·.1)) = some d) (hset : ∀ g (e : Nat), ws { g with h := e } = (ws g).set idx (d, .slice (some ⟨e, 0, none⟩) 1 1))
    (hrun : ∀ s W, (execOp (dk.sets act (ws s)).eval o).run Tryz.prog W = .ok (.value (.slice (some ⟨W.heap.size, 0, none⟩) 1 1)) (W.alloc (.cells p.ms.toArray p.T))) : gh.Step Tryz.prog (fun s => dk.sets act (ws s)) (C p x) Q x.j2 o := by
  refine gh.step_val hsel fun s L W hdp h0 hC => ⟨{ s with h := W.heap.size }, .slice (some ⟨W.heap.size, 0, none⟩) 1 1, dk.agree_sets idx d _ hdst (hidx s) (hset s _), (fun d' hd => by rw [hdst] at hd; cases hd; exact dk.sets_on _ hsz _ (ld _)), ?_⟩
  rw [hrun]
  refine ⟨rfl, ?_⟩
  obtain ⟨u0, u1, u2, u3, u4⟩ := hx
  have hd := hC.d
  rw [h0] at hd
  unfold C
  rw [more_on, more_off L (show x.j0 ≠ x.j2 by omega), more_off L (show x.j1 ≠ x.j2 by omega), more_off L (show x.j3 ≠ x.j2 by omega), more_off L (show x.j4 ≠ x.j2 by omega), more_off L (show x.j5 ≠ x.j2 by omega)]
  exact hd.s2
theorem app_run {ST s1 s2 m c : Nat} {a : Addr} {v v' : Value} {f : Act} {W w' : World} (hop : o.op = .call { callee := .builtin .append, args := #[.tmp s1, .tmp s2], argTypes := #[ST, ST] }) (e1 : f.eval (.tmp s1) = v) (e2 : f.eval (.tmp s2) = .slice (some a) m c) (hr : (Builtin.append_ #[ST, ST] o.type #[v, .slice (some a) m c]).run Tryz.prog W = .ok v' w') : (execOp f.eval o).run Tryz.prog W = .ok (.value v') w' := by
  unfold execOp
  simp only [hop, resolve, invoke, builtin, Sem.run_bind, Sem.run_pure, Result.andThen_ok, List.map_toArray, List.map_cons, List.map_nil, e1, e2, hr]
variable {ST : TypeId} {i0 : TypeInfo} {z : Value} {bytes : Nat}
theorem st1 (hx : x.up) (ht : Tryz.prog.underlying ST = some (.slice p.T)) (hi : Tryz.prog.info? p.T = some i0) (hz : i0.zero = some z) (hn : i0.size = p.n) (hb : i0.bytes = bytes) (hzs : z.cells.size = p.n) (hn0 : 0 < p.n)
    {s1 s2 d idx c : Nat} {a : Addr} (hop : o.op = .call { callee := .builtin .append, args := #[.tmp s1, .tmp s2], argTypes := #[ST, ST] }) (hdst : o.dst = some d) (hsz : d < act.tmps.size ∧ s1 < act.tmps.size ∧ s2 < act.tmps.size)
    (ld : ∀ g, (ws g).lookup d = some g.v1) (l1 : ∀ g, (ws g).lookup s1 = some (.slice (some ⟨g.e0, 0, none⟩) 0 0)) (l2 : ∀ g, (ws g).lookup s2 = some (.slice (some a) p.k c)) (hidx : ∀ g, ((ws g)[idx]?.map (·.1)) = some d) (hset : ∀ g (v : Value), ws { g with v1 := v } = (ws g).set idx (d, v))
    (hlen : p.xs.length = p.k * p.n) (hnews : ∀ W, Below p.W0.heap.size p.W0 W → ∀ j u, p.xs[j]? = some u → W.cell? (a.add j) = some u) (h1c : ∀ u ∈ p.xs, u.oneCell' = true) (hk : p.k ≤ 1048576) (hby : (0 + p.k) * bytes ≤ 140737488355328)
    (hdep : ∃ e ∈ o.after, Region.binds .any e = true ∧ e.on = x.j0) : gh.Step Tryz.prog (fun s => dk.sets act (ws s)) (C p x) Q x.j1 o := by
  refine gh.step_val (by rw [hop]; simp) fun s L W hdp h0 hC => ?_
  obtain ⟨xp, mp, yp, zp⟩ := hdep
  have lp := hdp xp mp yp
  rw [zp] at lp
  obtain ⟨u0, u1, u2, u3, u4⟩ := hx
  have hd := hC.d
  rw [h0] at hd
  have hbel : Below p.W0.heap.size p.W0 W := by
    have e3 := no31 hd
    rw [e3] at hd
    have e4 := no4 hd
    rw [e4] at hd
    have e5 := no5 hd
    rw [e5] at hd
    exact hd.below
  have hold := hd.at0 lp rfl
  obtain ⟨v', w', hr, ho, hg, _, hat⟩ := run_append_own_at (P := Tryz.prog) W p.W0.heap.size ST o.type p.T i0 z p.n bytes ht hi hz hn hb hzs hn0 _ 0 [] hold a p.k c p.xs hlen (hnews W hbel) h1c (by unfold maxLen; omega) hby hd.size
  rw [Nat.zero_add, List.nil_append] at ho
  refine ⟨{ s with v1 := v' }, v', dk.agree_sets idx d _ hdst (hidx s) (hset s _), (fun d' hd => by rw [hdst] at hd; cases hd; exact dk.sets_on _ hsz.1 _ (ld _)), ?_⟩
  rw [app_run hop (dk.eval_on _ _ hsz.2.1 (l1 s)) (dk.eval_on _ _ hsz.2.2 (l2 s)) hr]
  refine ⟨rfl, ?_⟩
  unfold C
  rw [more_on, more_off L (show x.j0 ≠ x.j1 by omega), more_off L (show x.j2 ≠ x.j1 by omega), more_off L (show x.j3 ≠ x.j1 by omega), more_off L (show x.j4 ≠ x.j1 by omega), more_off L (show x.j5 ≠ x.j1 by omega)]
  exact hd.s1 lp hg ho hat
theorem st3 (hx : x.up) (ht : Tryz.prog.underlying ST = some (.slice p.T)) (hi : Tryz.prog.info? p.T = some i0) (hz : i0.zero = some z) (hn : i0.size = p.n) (hb : i0.bytes = bytes) (hzs : z.cells.size = p.n) (hn0 : 0 < p.n)
    {s1 s2 d idx : Nat} (hop : o.op = .call { callee := .builtin .append, args := #[.tmp s1, .tmp s2], argTypes := #[ST, ST] }) (hdst : o.dst = some d) (hsz : d < act.tmps.size ∧ s1 < act.tmps.size ∧ s2 < act.tmps.size)
    (ld : ∀ g, (ws g).lookup d = some g.v2) (l1 : ∀ g, (ws g).lookup s1 = some g.v1) (l2 : ∀ g, (ws g).lookup s2 = some (.slice (some ⟨g.h, 0, none⟩) 1 1)) (hidx : ∀ g, ((ws g)[idx]?.map (·.1)) = some d) (hset : ∀ g (v : Value), ws { g with v2 := v } = (ws g).set idx (d, v))
    (hlen : p.ms.length = p.n) (h1c : ∀ u ∈ p.ms, u.oneCell' = true) (hk : p.k ≤ 1048576) (hby : (p.k + 1) * bytes ≤ 140737488355328)
    (hdep : ∃ e ∈ o.after, Region.binds .any e = true ∧ e.on = x.j1) (hdep2 : ∃ e ∈ o.after, Region.binds .any e = true ∧ e.on = x.j2) : gh.Step Tryz.prog (fun s => dk.sets act (ws s)) (C p x) Q x.j3 o := by
  refine gh.step_val (by rw [hop]; simp) fun s L W hdp h0 hC => ?_
  obtain ⟨xp, mp, yp, zp⟩ := hdep
  have lp := hdp xp mp yp
  rw [zp] at lp
  obtain ⟨xq, mq, yq, zq⟩ := hdep2
  have lq := hdp xq mq yq
  rw [zq] at lq
  obtain ⟨u0, u1, u2, u3, u4⟩ := hx
  have hd := hC.d
  rw [h0] at hd
  have hold := (hd.at1 lp).2 rfl
  obtain ⟨hcell, _, _⟩ := hd.at2 lq rfl
  have hnews : ∀ j u, p.ms[j]? = some u → W.cell? ((⟨s.h, 0, none⟩ : Addr).add j) = some u := fun j u hu => by
    rw [add0]
    exact bcell hcell (by simpa using hu)
  obtain ⟨v', w', hr, ho, hg, _, hat⟩ := run_append_own_at (P := Tryz.prog) W p.W0.heap.size ST o.type p.T i0 z p.n bytes ht hi hz hn hb hzs hn0 _ p.k p.xs hold ⟨s.h, 0, none⟩ 1 1 p.ms (by rw [hlen, Nat.one_mul]) hnews h1c (by unfold maxLen; omega) hby hd.size
  refine ⟨{ s with v2 := v' }, v', dk.agree_sets idx d _ hdst (hidx s) (hset s _), (fun d' hd => by rw [hdst] at hd; cases hd; exact dk.sets_on _ hsz.1 _ (ld _)), ?_⟩
  rw [app_run hop (dk.eval_on _ _ hsz.2.1 (l1 s)) (dk.eval_on _ _ hsz.2.2 (l2 s)) hr]
  refine ⟨rfl, ?_⟩
  unfold C
  rw [more_on, more_off L (show x.j0 ≠ x.j3 by omega), more_off L (show x.j1 ≠ x.j3 by omega), more_off L (show x.j2 ≠ x.j3 by omega), more_off L (show x.j4 ≠ x.j3 by omega), more_off L (show x.j5 ≠ x.j3 by omega)]
  exact hd.s3 lp lq hg ho
theorem st4 (hx : x.up) (ht : Tryz.prog.underlying ST = some (.slice p.T)) (hi : Tryz.prog.info? p.T = some i0) (hz : i0.zero = some z) (hn : i0.size = p.n) (hb : i0.bytes = bytes) (hzs : z.cells.size = p.n) (hn0 : 0 < p.n)
    {s1 s2 d idx c : Nat} {a : Addr} (hop : o.op = .call { callee := .builtin .append, args := #[.tmp s1, .tmp s2], argTypes := #[ST, ST] }) (hdst : o.dst = some d) (hsz : d < act.tmps.size ∧ s1 < act.tmps.size ∧ s2 < act.tmps.size)
    (ld : ∀ g, (ws g).lookup d = some g.v3) (l1 : ∀ g, (ws g).lookup s1 = some g.v2) (l2 : ∀ g, (ws g).lookup s2 = some (.slice (some a) p.m c)) (hidx : ∀ g, ((ws g)[idx]?.map (·.1)) = some d) (hset : ∀ g (v : Value), ws { g with v3 := v } = (ws g).set idx (d, v))
    (hlen : p.ys.length = p.m * p.n) (hnews : ∀ W, Below p.W0.heap.size p.W0 W → ∀ j u, p.ys[j]? = some u → W.cell? (a.add j) = some u) (h1c : ∀ u ∈ p.ys, u.oneCell' = true) (hk : p.k ≤ 1048576 ∧ p.m ≤ 1048576) (hby : (p.k + 1 + p.m) * bytes ≤ 140737488355328)
    (hdep : ∃ e ∈ o.after, Region.binds .any e = true ∧ e.on = x.j3) : gh.Step Tryz.prog (fun s => dk.sets act (ws s)) (C p x) Q x.j4 o := by
  refine gh.step_val (by rw [hop]; simp) fun s L W hdp h0 hC => ?_
  obtain ⟨xp, mp, yp, zp⟩ := hdep
  have lp := hdp xp mp yp
  rw [zp] at lp
  obtain ⟨u0, u1, u2, u3, u4⟩ := hx
  have hd := hC.d
  rw [h0] at hd
  have hbel : Below p.W0.heap.size p.W0 W := by
    have e5 := no5 hd
    rw [e5] at hd
    exact hd.below
  have hold := (hd.at3 lp).2.2 rfl
  obtain ⟨v', w', hr, ho, hg, _, hat⟩ := run_append_own_at (P := Tryz.prog) W p.W0.heap.size ST o.type p.T i0 z p.n bytes ht hi hz hn hb hzs hn0 _ (p.k + 1) (p.xs ++ p.ms) hold a p.m c p.ys hlen (hnews W hbel) h1c (by unfold maxLen; omega) hby hd.size
  refine ⟨{ s with v3 := v' }, v', dk.agree_sets idx d _ hdst (hidx s) (hset s _), (fun d' hd => by rw [hdst] at hd; cases hd; exact dk.sets_on _ hsz.1 _ (ld _)), ?_⟩
  rw [app_run hop (dk.eval_on _ _ hsz.2.1 (l1 s)) (dk.eval_on _ _ hsz.2.2 (l2 s)) hr]
  refine ⟨rfl, ?_⟩
  unfold C
  rw [more_on, more_off L (show x.j0 ≠ x.j4 by omega), more_off L (show x.j1 ≠ x.j4 by omega), more_off L (show x.j2 ≠ x.j4 by omega), more_off L (show x.j3 ≠ x.j4 by omega), more_off L (show x.j5 ≠ x.j4 by omega)]
  exact hd.s4 lp hg ho
theorem st5 (hx : x.up) {d s1 idx : Nat} (hop : o.op = .assign (.tmp s1)) (hdst : o.dst = some d) (hsz : d < act.tmps.size ∧ s1 < act.tmps.size) (ld : ∀ g, (ws g).lookup d = some g.v4) (l1 : ∀ g, (ws g).lookup s1 = some g.v3) (hidx : ∀ g, ((ws g)[idx]?.map (·.1)) = some d) (hset : ∀ g (v : Value), ws { g with v4 := v } = (ws g).set idx (d, v))
    (hdep : ∃ e ∈ o.after, Region.binds .any e = true ∧ e.on = x.j4) : gh.Step Tryz.prog (fun s => dk.sets act (ws s)) (C p x) Q x.j5 o := by
  refine gh.step_val (by rw [hop]; simp) fun s L W hdp h0 hC => ?_
  obtain ⟨xp, mp, yp, zp⟩ := hdep
  have lp := hdp xp mp yp
  rw [zp] at lp
  obtain ⟨u0, u1, u2, u3, u4⟩ := hx
  have hd := hC.d
  rw [h0] at hd
  refine ⟨{ s with v4 := s.v3 }, s.v3, dk.agree_sets idx d _ hdst (hidx s) (hset s _), (fun d' hd => by rw [hdst] at hd; cases hd; exact dk.sets_on _ hsz.1 _ (ld _)), ?_⟩
  have hrun : (execOp (dk.sets act (ws s)).eval o).run Tryz.prog W = .ok (.value s.v3) W := by
    unfold execOp
    simp only [hop, dk.eval_on _ _ hsz.2 (l1 s), Sem.run_pure]
  rw [hrun]
  refine ⟨rfl, ?_⟩
  unfold C
  rw [more_on, more_off L (show x.j0 ≠ x.j5 by omega), more_off L (show x.j1 ≠ x.j5 by omega), more_off L (show x.j2 ≠ x.j5 by omega), more_off L (show x.j3 ≠ x.j5 by omega), more_off L (show x.j4 ≠ x.j5 by omega)]
  exact hd.s5 lp
end
/-- when all is done -/
theorem done {p : Pr} {x : J} {g : G} {L : Nat → Bool} {W : World} {N : Nat} (hC : C p x g L W) (hx : x.up) (hN : x.j5 < N) (hL : ∀ i, i < N → L i = true) :
    Below p.W0.heap.size p.W0 W ∧ g.v4 = g.v3 ∧ W.ownsRow p.W0.heap.size p.T p.n g.v3 (p.k + 1 + p.m) (p.xs ++ p.ms ++ p.ys) := by
  have hd := hC.d
  obtain ⟨u0, u1, u2, u3, u4⟩ := hx
  rw [hL x.j4 (by omega), hL x.j5 hN] at hd
  exact ⟨hd.bel, (hd.at5 rfl).2, (hd.at4 rfl).2⟩
/-- nothing is done yet -/
theorem start (p : Pr) (x : J) (g : G) : C p x g (fun _ => false) p.W0.drew :=
  ⟨(Below.refl _ _).drew, fun e => (by cases e), fun e => (by cases e), fun e => (by cases e), fun e => (by cases e), fun e => (by cases e), fun e => (by cases e)⟩
end Go.Proofs.YtnooibeohdfcmaaGreatDoor.tas
