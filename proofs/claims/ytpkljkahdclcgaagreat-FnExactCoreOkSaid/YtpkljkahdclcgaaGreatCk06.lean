/- The law of CoreOk, walked: at every core the program answers as the specification. -/
import Derived.Test.YtpkljkahdclcgaaGreatCk05
import Derived.Test.YtpkljkahdclcgaaGreatFlEntry
import Derived.Test.YtpkljkahdclcgaaGreatFlMark
import Derived.Test.YtpkljkahdclcgaaGreatQuRows
import Derived.Test.YtpkljkahdclcgaaGreatSuRows
import Derived.Test.YtpkljkahdclcgaaGreatCk04

/- A stream that comes in as an argument, opened: its two lists as they lie in memory. -/
namespace Go.Proofs.YtpkljkahdclcgaaGreat.sa
open Go.ChangeShapes Go.WideShapes Go.ChangeAt Go.RowKit Go.Proofs.YtpkljkahdclcgaaGreat.fl
set_option linter.unusedVariables false

instance : Inhabited flY.En := ⟨⟨0, 0, ByteArray.empty⟩⟩
instance : Inhabited rr.Ex := ⟨⟨ByteArray.empty, 0⟩⟩
theorem cI : Tryz.prog.cellsOf 3 = 1 := by kernel_rfl
theorem cS : Tryz.prog.cellsOf 9 = 1 := by kernel_rfl
theorem cY : Tryz.prog.cellsOf 225 = 3 := by kernel_rfl
theorem cK : Tryz.prog.cellsOf 227 = 2 := by kernel_rfl
theorem cYs : Tryz.prog.cellsOf 112 = 1 := by kernel_rfl
theorem cKs : Tryz.prog.cellsOf 113 = 1 := by kernel_rfl
theorem cT : Tryz.prog.cellsOf 115 = 5 := by kernel_rfl

section
variable {H : Type} {enc : TypeId × Value → H} {W : World}
set_option maxRecDepth 100000 in
theorem open_entry (cs : List Value) (k : Nat) (x : DataW H × List MemPlace) (h : DataW.trod enc Tryz.prog W 0 (fun _ => true) true k 225 cs = some x) : ∃ a : flY.En, cs = flY.c a ∧ flY.ok a := by
  obtain ⟨xs, m, _, _, hlen, hxl, hf⟩ := DataW.trod_struct Tryz.underlying225 h
  rw [cY] at hlen
  match xs, hxl, cs, hlen with
  | [y0, y1, y2], _, [v0, v1, v2], _ =>
    have g0 := hf 0 _ rfl
    have g1 := hf 1 _ rfl
    have g2 := hf 2 _ rfl
    simp [cI, cS] at g0 g1 g2
    obtain ⟨z, e0, _, _⟩ := DataW.trod_int Tryz.underlying3 g0
    obtain ⟨o, e1, _, _⟩ := DataW.trod_int Tryz.underlying3 g1
    obtain ⟨s1, e2, _, w1⟩ := DataW.trod_string Tryz.underlying9 g2
    simp at e0 e1 e2
    subst e0 e1 e2
    exact ⟨⟨z, o, s1⟩, rfl, w1⟩
set_option maxRecDepth 100000 in
theorem open_mark (cs : List Value) (k : Nat) (x : DataW H × List MemPlace) (h : DataW.trod enc Tryz.prog W 0 (fun _ => true) true k 227 cs = some x) : ∃ a : rr.Ex, cs = flK.c a ∧ flK.ok a := by
  obtain ⟨xs, m, _, _, hlen, hxl, hf⟩ := DataW.trod_struct Tryz.underlying227 h
  rw [cK] at hlen
  match xs, hxl, cs, hlen with
  | [y0, y1], _, [v0, v1], _ =>
    have g0 := hf 0 _ rfl
    have g1 := hf 1 _ rfl
    simp [cI, cS] at g0 g1
    obtain ⟨s1, e0, _, w1⟩ := DataW.trod_string Tryz.underlying9 g0
    obtain ⟨o, e1, _, _⟩ := DataW.trod_int Tryz.underlying3 g1
    simp at e0 e1
    subst e0 e1
    exact ⟨⟨s1, o⟩, rfl, w1⟩

set_option maxRecDepth 100000 in
theorem open_stream {b0 : Nat} {v : Value} {d : DataW H} {p : List MemPlace} (hv : Value.okWide Tryz.prog W .any b0 115 v) (h : DataW.Trod enc Tryz.prog W 0 (fun _ => true) true 115 v d p) :
    ∃ (nm : ByteArray) (lo nx : Int) (rs : List flY.En) (hs : List rr.Ex) (ra ha : Option Addr) (rc hc : Nat), v = .agg #[.string nm, .int .i64 lo, .int .i64 nx, .slice ra rs.length rc, .slice ha hs.length hc] ∧ nm.size ≤ maxLen ∧ (Lit.int .i64 lo).wf = true ∧ (Lit.int .i64 nx).wf = true ∧ rs.length ≤ maxLen ∧ hs.length ≤ maxLen ∧ (∀ e ∈ rs, flY.ok e) ∧ (∀ e ∈ hs, flK.ok e) ∧
      Row flY.c 3 W W.heap.size ra rs ∧ Row flK.c 2 W W.heap.size ha hs := by
  obtain ⟨cs, rfl, hsz⟩ := okWide_struct Tryz.underlying115 hv
  have hsz' := hsz.trans cT
  obtain ⟨fuel, hf0⟩ := h
  obtain ⟨xs, m, _, _, hlen, hxl, hf⟩ := DataW.trod_struct Tryz.underlying115 hf0
  obtain ⟨l⟩ := cs
  match xs, hxl, l, hsz' with
  | [y0, y1, y2, y3, y4], _, [v0, v1, v2, v3, v4], _ =>
    have g0 := hf 0 _ rfl
    have g1 := hf 1 _ rfl
    have g2 := hf 2 _ rfl
    have g3 := hf 3 _ rfl
    have g4 := hf 4 _ rfl
    simp [Value.cells, cI, cS, cYs, cKs] at g0 g1 g2 g3 g4
    obtain ⟨nm, e0, _, w0⟩ := DataW.trod_string Tryz.underlying9 g0
    obtain ⟨lo, e1, _, w1⟩ := DataW.trod_int Tryz.underlying3 g1
    obtain ⟨nx, e2, _, w2⟩ := DataW.trod_int Tryz.underlying3 g2
    simp at e0 e1 e2
    subst e0 e1 e2
    obtain ⟨ra, rs, rc, rfl, h1, h2, h3⟩ := open_row flY.c_len (by omega) Tryz.underlying112 cY open_entry g3
    obtain ⟨ha, hs, hc, rfl, k1, k2, k3⟩ := open_row flK.c_len (by omega) Tryz.underlying113 cK open_mark g4
    exact ⟨nm, lo, nx, rs, hs, ra, ha, rc, hc, rfl, w0, w1, w2, h1, k1, h2, k2, h3, k3⟩
end
end Go.Proofs.YtpkljkahdclcgaaGreat.sa

/- A core that comes in as an argument, opened: its routes, queues and streams as they lie in memory. -/
namespace Go.Proofs.YtpkljkahdclcgaaGreat.ca
open Go.ChangeShapes Go.WideShapes Go.ChangeAt Go.RowKit Go.Proofs.YtpkljkahdclcgaaGreat.rr Go.Proofs.YtpkljkahdclcgaaGreat.ra Go.Proofs.YtpkljkahdclcgaaGreat.fl
set_option linter.unusedVariables false

instance : Inhabited qu.E := ⟨⟨ByteArray.empty, 0, none, 0, [], none, 0, []⟩⟩
instance : Inhabited su.E := ⟨⟨ByteArray.empty, 0, 0, none, 0, [], none, 0, []⟩⟩
structure InQ (W : World) (r : qu.E) : Prop where
  ok : qu.ok r
  wf : (Lit.int .i64 r.nx).wf = true
  rr : Row flM.c 5 W W.heap.size r.ra r.rs
  rh : Row flH.c 7 W W.heap.size r.ha r.hs
structure InT (W : World) (r : su.E) : Prop where
  ok : su.ok r
  wl : (Lit.int .i64 r.lo).wf = true
  wf : (Lit.int .i64 r.nx).wf = true
  rr : Row flY.c 3 W W.heap.size r.ra r.rs
  rh : Row flK.c 2 W W.heap.size r.ha r.hs
theorem cI : Tryz.prog.cellsOf 3 = 1 := by kernel_rfl
theorem cS : Tryz.prog.cellsOf 9 = 1 := by kernel_rfl
theorem cMs : Tryz.prog.cellsOf 107 = 1 := by kernel_rfl
theorem cHs : Tryz.prog.cellsOf 108 = 1 := by kernel_rfl
theorem cYs : Tryz.prog.cellsOf 112 = 1 := by kernel_rfl
theorem cKs : Tryz.prog.cellsOf 113 = 1 := by kernel_rfl
theorem cQ : Tryz.prog.cellsOf 110 = 4 := by kernel_rfl
theorem cT : Tryz.prog.cellsOf 115 = 5 := by kernel_rfl
theorem cR : Tryz.prog.cellsOf 25 = 2 := by kernel_rfl
theorem cEs : Tryz.prog.cellsOf 22 = 1 := by kernel_rfl
theorem cBs : Tryz.prog.cellsOf 23 = 1 := by kernel_rfl
theorem cQs : Tryz.prog.cellsOf 26 = 1 := by kernel_rfl
theorem cTs : Tryz.prog.cellsOf 27 = 1 := by kernel_rfl
theorem cC : Tryz.prog.cellsOf 29 = 4 := by kernel_rfl
section
variable {H : Type} {enc : TypeId × Value → H} {W : World}
set_option maxRecDepth 100000 in
theorem open_one_queue (cs : List Value) (k : Nat) (x : DataW H × List MemPlace) (h : DataW.trod enc Tryz.prog W 0 (fun _ => true) true k 110 cs = some x) : ∃ a : qu.E, cs = qu.c a ∧ InQ W a := by
  obtain ⟨xs, m, _, _, hlen, hxl, hf⟩ := DataW.trod_struct Tryz.underlying110 h
  rw [cQ] at hlen
  match xs, hxl, cs, hlen with
  | [y0, y1, y2, y3], _, [v0, v1, v2, v3], _ =>
    have g0 := hf 0 _ rfl
    have g1 := hf 1 _ rfl
    have g2 := hf 2 _ rfl
    have g3 := hf 3 _ rfl
    simp [cI, cS, cMs, cHs] at g0 g1 g2 g3
    obtain ⟨nm, e0, _, w0⟩ := DataW.trod_string Tryz.underlying9 g0
    obtain ⟨nx, e1, _, w1⟩ := DataW.trod_int Tryz.underlying3 g1
    simp at e0 e1
    subst e0 e1
    obtain ⟨ra, rs, rc, rfl, h1, h2, h3⟩ := open_row flM.c_len (by omega) Tryz.underlying107 qa.cM qa.open_message g2
    obtain ⟨ha, hs, hc, rfl, k1, k2, k3⟩ := open_row flH.c_len (by omega) Tryz.underlying108 qa.cH qa.open_held g3
    exact ⟨⟨nm, nx, ra, rc, rs, ha, hc, hs⟩, rfl, ⟨w0, h1, k1, h2, k2⟩, w1, h3, k3⟩
set_option maxRecDepth 100000 in
theorem open_one_stream (cs : List Value) (k : Nat) (x : DataW H × List MemPlace) (h : DataW.trod enc Tryz.prog W 0 (fun _ => true) true k 115 cs = some x) : ∃ a : su.E, cs = su.c a ∧ InT W a := by
  obtain ⟨xs, m, _, _, hlen, hxl, hf⟩ := DataW.trod_struct Tryz.underlying115 h
  rw [cT] at hlen
  match xs, hxl, cs, hlen with
  | [y0, y1, y2, y3, y4], _, [v0, v1, v2, v3, v4], _ =>
    have g0 := hf 0 _ rfl
    have g1 := hf 1 _ rfl
    have g2 := hf 2 _ rfl
    have g3 := hf 3 _ rfl
    have g4 := hf 4 _ rfl
    simp [cI, cS, cYs, cKs] at g0 g1 g2 g3 g4
    obtain ⟨nm, e0, _, w0⟩ := DataW.trod_string Tryz.underlying9 g0
    obtain ⟨lo, e1, _, w1⟩ := DataW.trod_int Tryz.underlying3 g1
    obtain ⟨nx, e2, _, w2⟩ := DataW.trod_int Tryz.underlying3 g2
    simp at e0 e1 e2
    subst e0 e1 e2
    obtain ⟨ra, rs, rc, rfl, h1, h2, h3⟩ := open_row flY.c_len (by omega) Tryz.underlying112 sa.cY sa.open_entry g3
    obtain ⟨ha, hs, hc, rfl, k1, k2, k3⟩ := open_row flK.c_len (by omega) Tryz.underlying113 sa.cK sa.open_mark g4
    exact ⟨⟨nm, lo, nx, ra, rc, rs, ha, hc, hs⟩, rfl, ⟨w0, h1, k1, h2, k2⟩, w1, w2, h3, k3⟩
/-- a core as it came in -/
structure In (W : World) (es : List Ex) (bs : List Bi) (qs : List qu.E) (ts : List su.E) (ea ba qa ta : Option Addr) : Prop where
  el : es.length ≤ maxLen
  bl : bs.length ≤ maxLen
  ql : qs.length ≤ maxLen
  tl : ts.length ≤ maxLen
  eo : ∀ e ∈ es, e.n.size ≤ maxLen
  bo : ∀ e ∈ bs, e.x.size ≤ maxLen ∧ e.k.size ≤ maxLen ∧ e.q.size ≤ maxLen
  qo : ∀ e ∈ qs, InQ W e
  to : ∀ e ∈ ts, InT W e
  se : SE W W.heap.size ea es
  sb : SB W W.heap.size ba bs
  qr : Row qu.c 4 W W.heap.size qa qs
  tr : Row su.c 5 W W.heap.size ta ts
theorem In.q {es : List Ex} {bs : List Bi} {qs : List qu.E} {ts : List su.E} {ea ba qa ta : Option Addr} (h : In W es bs qs ts ea ba qa ta) : qu.V W W.heap.size qa qs := ⟨h.qr, fun r hr => ⟨(h.qo r hr).rr, (h.qo r hr).rh⟩⟩
theorem In.t {es : List Ex} {bs : List Bi} {qs : List qu.E} {ts : List su.E} {ea ba qa ta : Option Addr} (h : In W es bs qs ts ea ba qa ta) : su.V W W.heap.size ta ts := ⟨h.tr, fun r hr => ⟨(h.to r hr).rr, (h.to r hr).rh⟩⟩
set_option maxRecDepth 100000 in
theorem open_core {b0 : Nat} {v : Value} {d : DataW H} {p : List MemPlace} (hv : Value.okWide Tryz.prog W .any b0 29 v) (h : DataW.Trod enc Tryz.prog W 0 (fun _ => true) true 29 v d p) :
    ∃ (es : List Ex) (bs : List Bi) (qs : List qu.E) (ts : List su.E) (ea ba qa ta : Option Addr) (ec bc qc tc : Nat), v = .agg #[.slice ea es.length ec, .slice ba bs.length bc, .slice qa qs.length qc, .slice ta ts.length tc] ∧ In W es bs qs ts ea ba qa ta := by
  obtain ⟨cs, rfl, hsz⟩ := okWide_struct Tryz.underlying29 hv
  have hsz' := hsz.trans cC
  obtain ⟨fuel, hf0⟩ := h
  obtain ⟨xs, m, _, _, hlen, hxl, hf⟩ := DataW.trod_struct Tryz.underlying29 hf0
  obtain ⟨l⟩ := cs
  match xs, hxl, l, hsz' with
  | [y0, y1, y2], _, [v0, v1, v2, v3], _ =>
    have g0 := hf 0 _ rfl
    have g1 := hf 1 _ rfl
    have g2 := hf 2 _ rfl
    simp [Value.cells, cR, cQs, cTs] at g0 g1 g2
    obtain ⟨xs', m', _, _, hlen', hxl', hf'⟩ := DataW.trod_struct Tryz.underlying25 g0
    match xs', hxl' with
    | [z0, z1], _ =>
      have k0 := hf' 0 _ rfl
      have k1 := hf' 1 _ rfl
      simp [cEs, cBs] at k0 k1
      obtain ⟨ea, es, ec, rfl, h1, h2, h3⟩ := rg.open_exchanges k0
      obtain ⟨ba, bs, bc, rfl, j1, j2, j3⟩ := rg.open_bindings k1
      obtain ⟨qa, qs, qc, rfl, q1, q2, q3⟩ := open_row qu.c_len (by omega) Tryz.underlying26 cQ open_one_queue g1
      obtain ⟨ta, ts, tc, rfl, t1, t2, t3⟩ := open_row su.c_len (by omega) Tryz.underlying27 cT open_one_stream g2
      exact ⟨es, bs, qs, ts, ea, ba, qa, ta, ec, bc, qc, tc, rfl, ⟨h1, j1, q1, t1, h2, j2, q2, t2, h3, j3, q3, t3⟩⟩
end
end Go.Proofs.YtpkljkahdclcgaaGreat.ca

/- The law of CoreOk, walked: at every core the program answers as the specification. -/
namespace Go.Proofs.YtpkljkahdclcgaaGreat.lwCoreOk
open Go.ChangeShapes Go.WideShapes Go.ChangeAt Go.RowKit Go.Proofs.YtpkljkahdclcgaaGreat.rc Go.Proofs.YtpkljkahdclcgaaGreat.rr Go.Proofs.YtpkljkahdclcgaaGreat.ra Go.Proofs.YtpkljkahdclcgaaGreat.rt Go.Proofs.YtpkljkahdclcgaaGreat.ro Go.Proofs.YtpkljkahdclcgaaGreat.fl Go.Proofs.YtpkljkahdclcgaaGreat.co Go.Proofs.YtpkljkahdclcgaaGreat.cb
set_option linter.unusedVariables false

theorem step6 {w5 w6 : World} {es : List Ex} {bs : List Bi} {qs ks4 ks6 : List qu.E} {ts us4 us6 : List su.E} {B4 B6 ge4 gb4 gq4 gt4 ge6 gb6 gq6 gt6 n : Nat} (F : cb.Fit es bs qs ts) (hb6 : Below w5.heap.size w5 w6) (hn : n < w5.heap.size) (hY : w5.heap[n]? = some (.cells #[.slice (some ⟨ge4, 0, none⟩) es.length es.length, .slice (some ⟨gb4, 0, none⟩) bs.length bs.length, .slice (some ⟨gq4, 0, none⟩) qs.length qs.length, .slice (some ⟨gt4, 0, none⟩) ts.length ts.length] 39 (0, 0))) (h4 : Cg w5 B4 es bs qs ts ge4 gb4 gq4 gt4 ks4 us4) (h6 : Cg w6 B6 es bs qs ts ge6 gb6 gq6 gt6 ks6 us6) :
    (w6.cell? ⟨n, 0, none⟩ = some (.slice (some ⟨ge4, 0, none⟩) es.length es.length) ∧ w6.cell? ⟨n, 1, none⟩ = some (.slice (some ⟨gb4, 0, none⟩) bs.length bs.length) ∧ w6.cell? ⟨n, 2, none⟩ = some (.slice (some ⟨gq4, 0, none⟩) qs.length qs.length) ∧ w6.cell? ⟨n, 3, none⟩ = some (.slice (some ⟨gt4, 0, none⟩) ts.length ts.length)) ∧ Calls Tryz.prog 14 #[.agg #[.slice (some ⟨ge4, 0, none⟩) es.length es.length, .slice (some ⟨gb4, 0, none⟩) bs.length bs.length, .slice (some ⟨gq4, 0, none⟩) qs.length qs.length, .slice (some ⟨gt4, 0, none⟩) ts.length ts.length], .agg #[.slice (some ⟨ge6, 0, none⟩) es.length es.length, .slice (some ⟨gb6, 0, none⟩) bs.length bs.length, .slice (some ⟨gq6, 0, none⟩) qs.length qs.length, .slice (some ⟨gt6, 0, none⟩) ts.length ts.length]] w6 fun e w' => e = .returned (.bool true) ∧ Below w6.heap.size w6 w' := by
  have q5 := bstay hY hb6 hn
  refine ⟨⟨bcell q5 rfl, bcell q5 rfl, bcell q5 rfl, bcell q5 rfl⟩, ?_⟩
  have h4' := h4.below hb6
  have s4 := same_of h4'
  have s6 := same_of h6
  have F4 := fit_same F s4
  obtain ⟨r1, r2, r3, r4⟩ := h4'.rows
  obtain ⟨p1, p2, p3, p4⟩ := h6.rows
  have k := eq_core es bs ks4 ks6 us4 us6 _ _ _ _ _ _ _ _ es.length bs.length qs.length ts.length es.length bs.length qs.length ts.length w6 F.el F.bl (by have := F4.ql; unfold maxLen; omega) (by have := F4.tl; unfold maxLen; omega) (fun e he => by have := (F4.qf e he).el; have := (F4.qf e he).ml; unfold maxLen; omega) (fun e he => by have := (F4.tf e he).el; have := (F4.tf e he).ml; unfold maxLen; omega) (by rw [s6.ql, s4.ql]) (by rw [s6.tl, s4.tl]) (fun k r s hr hs => ?_) (fun k r s hr hs => ?_) (se_re r1) (se_re p1) (sb_rb r2) (sb_rb p2) r3 p3 r4 p4
  · rw [s4.ql, s4.tl] at k
    exact k
  · obtain ⟨x, hx, a, b, c, d⟩ := s6.flip.q_at hs
    obtain ⟨a', b', c', d'⟩ := s4.q k r x hr hx
    exact ⟨a'.trans a, b'.trans b, c'.trans c, d'.trans d⟩
  · obtain ⟨x, hx, a, b, c, d, f⟩ := s6.flip.t_at hs
    obtain ⟨a', b', c', d', f'⟩ := s4.t k r x hr hx
    exact ⟨a'.trans a, b'.trans b, c'.trans c, d'.trans d, f'.trans f⟩

set_option maxRecDepth 100000 in
set_option maxHeartbeats 1000000 in
theorem walk (es : List Ex) (bs : List Bi) (qs : List qu.E) (ts : List su.E) (ea ba qa ta : Option Addr) (ec bc qc tc : Nat) (w : World) (hin : ca.In w es bs qs ts ea ba qa ta) :
    Calls Tryz.prog 3 #[.agg #[.slice ea es.length ec, .slice ba bs.length bc, .slice qa qs.length qc, .slice ta ts.length tc]] w fun e w' => e = .returned (.bool true) ∧ Below w.heap.size w w' := by
  have hb : Below w.heap.size w (w.alloc (.cells #[.slice ea es.length ec, .slice ba bs.length bc, .slice qa qs.length qc, .slice ta ts.length tc] 29)) := (Below.refl _ _).alloc (Nat.le_refl _) _
  have hA := bnew w #[.slice ea es.length ec, .slice ba bs.length bc, .slice qa qs.length qc, .slice ta ts.length tc] 29
  have hlt : w.heap.size < (w.alloc (.cells #[.slice ea es.length ec, .slice ba bs.length bc, .slice qa qs.length qc, .slice ta ts.length tc] 29)).heap.size := by simp
  obtain ⟨W, hW⟩ : ∃ W, w.alloc (.cells #[.slice ea es.length ec, .slice ba bs.length bc, .slice qa qs.length qc, .slice ta ts.length tc] 29) = W := ⟨_, rfl⟩
  rw [hW] at hb hA hlt
  have HSE : Hid (SE W W.heap.size ea es ∧ SB W W.heap.size ba bs ∧ qu.V W W.heap.size qa qs ∧ su.V W W.heap.size ta ts) := ⟨rl.SE.inn hin.se hb, rl.SB.inn hin.sb hb, hin.q.inn hb, hin.t.inn hb⟩
  have hsz := sz_core es bs qs ts ea ba qa ta ec bc qc tc W hin.el hin.bl hin.ql hin.tl hin.eo hin.bo (fun e he => (hin.qo e he).ok) (fun e he => (hin.to e he).ok) HSE.out.1 HSE.out.2.1 HSE.out.2.2.1 HSE.out.2.2.2
  have HA : Hid (W.heap[w.heap.size]? = some (.cells #[.slice ea es.length ec, .slice ba bs.length bc, .slice qa qs.length qc, .slice ta ts.length tc] 29 (0, 0))) := hA
  have BOX : Hid (∀ w', Below W.heap.size W w' → w'.cell? ⟨w.heap.size, 0, none⟩ = some (.slice ea es.length ec) ∧ w'.cell? ⟨w.heap.size, 1, none⟩ = some (.slice ba bs.length bc) ∧ w'.cell? ⟨w.heap.size, 2, none⟩ = some (.slice qa qs.length qc) ∧ w'.cell? ⟨w.heap.size, 3, none⟩ = some (.slice ta ts.length tc)) := fun w' h => by
    have h1 := bstay HA.out h hlt
    exact ⟨bcell h1 rfl, bcell h1 rfl, bcell h1 rfl, bcell h1 rfl⟩
  obtain ⟨c0, c1, c2, c3⟩ := BOX.out W (Below.refl _ _)
  clear hA hin
  go_enter Tryz.func3, Tryz.ntmps3
  go_wp2_with (go_at_call 10; fail)
  clear hW
  refine hsz.mono ?_
  rintro e w1 ⟨r, rfl, hr, hb1⟩
  by_cases hneg : r < 0
  · go_wp2
    go_ret
    exact ⟨rfl, hb.trans (hb1.mono hb.size)⟩
  have F : Hid (cb.Fit es bs qs ts) := fit (hr (by omega))
  have FX : Hid ((∀ e ∈ qs, e.rs.length ≤ 1048576 ∧ e.hs.length ≤ 1048576) ∧ (∀ e ∈ ts, e.rs.length ≤ 1048576 ∧ e.hs.length ≤ 1048576)) := ⟨fun e he => ⟨(F.out.qf e he).el, (F.out.qf e he).ml⟩, fun e he => ⟨(F.out.tf e he).el, (F.out.tf e he).ml⟩⟩
  obtain ⟨ok, hok⟩ : ∃ ok, okC es bs qs ts = ok := ⟨_, rfl⟩
  have HOK : Hid (okC es bs qs ts = ok) := hok
  obtain ⟨d0, d1, d2, d3⟩ := BOX.out w1 hb1
  have ht2 := to_core es bs qs ts ea ba qa ta ec bc qc tc w1 F.out.el F.out.bl F.out.ql F.out.tl FX.out.1 FX.out.2 (rl.SE.inn HSE.out.1 hb1) (rl.SB.inn HSE.out.2.1 hb1) (HSE.out.2.2.1.inn hb1) (HSE.out.2.2.2.inn hb1)
  have hr0 : (0 : Int) ≤ r := by omega
  clear hsz hr c0 c1 c2 c3 hok
  go_wp2_with (go_at_call 12; fail)
  refine ht2.mono ?_
  rintro e w2 ⟨ge2, gb2, gq2, gt2, ks2, us2, rfl, co2, hb2⟩
  have hsp := cb.spec_ok es.length bs.length qs.length ts.length F.out co2.g
  rw [HOK.out] at hsp
  have hB2 : Below W.heap.size W w2 := hb1.trans (hb2.mono hb1.size)
  clear ht2 d0 d1 d2 d3 co2
  go_wp2_with (go_at_call 11; fail)
  refine hsp.mono ?_
  rintro e w3 ⟨rfl, hb3⟩
  have hB3 : Below W.heap.size W w3 := hB2.trans (hb3.mono hB2.size)
  obtain ⟨d0, d1, d2, d3⟩ := BOX.out w3 hB3
  have ht4 := to_core es bs qs ts ea ba qa ta ec bc qc tc w3 F.out.el F.out.bl F.out.ql F.out.tl FX.out.1 FX.out.2 (rl.SE.inn HSE.out.1 hB3) (rl.SB.inn HSE.out.2.1 hB3) (HSE.out.2.2.1.inn hB3) (HSE.out.2.2.2.inn hB3)
  clear hsp
  go_wp2_with (go_at_call 12; fail)
  refine ht4.mono ?_
  rintro e w4 ⟨ge4, gb4, gq4, gt4, ks4, us4, rfl, co4, hb4⟩
  have hB4 : Below W.heap.size W w4 := hB3.trans (hb4.mono hB3.size)
  have hbx : Below w4.heap.size w4 (w4.alloc (.cells #[.slice (some ⟨ge4, 0, none⟩) es.length es.length, .slice (some ⟨gb4, 0, none⟩) bs.length bs.length, .slice (some ⟨gq4, 0, none⟩) qs.length qs.length, .slice (some ⟨gt4, 0, none⟩) ts.length ts.length] 39)) := (Below.refl _ _).alloc (Nat.le_refl _) _
  have hx := bnew w4 #[.slice (some ⟨ge4, 0, none⟩) es.length es.length, .slice (some ⟨gb4, 0, none⟩) bs.length bs.length, .slice (some ⟨gq4, 0, none⟩) qs.length qs.length, .slice (some ⟨gt4, 0, none⟩) ts.length ts.length] 39
  have hxl : w4.heap.size < (w4.alloc (.cells #[.slice (some ⟨ge4, 0, none⟩) es.length es.length, .slice (some ⟨gb4, 0, none⟩) bs.length bs.length, .slice (some ⟨gq4, 0, none⟩) qs.length qs.length, .slice (some ⟨gt4, 0, none⟩) ts.length ts.length] 39)).heap.size := by simp
  obtain ⟨X, hX⟩ : ∃ X, w4.alloc (.cells #[.slice (some ⟨ge4, 0, none⟩) es.length es.length, .slice (some ⟨gb4, 0, none⟩) bs.length bs.length, .slice (some ⟨gq4, 0, none⟩) qs.length qs.length, .slice (some ⟨gt4, 0, none⟩) ts.length ts.length] 39) = X := ⟨_, rfl⟩
  rw [hX] at hbx hx hxl
  have hBX : Below W.heap.size W X := hB4.trans (hbx.mono hB4.size)
  have HCO : Hid (Cg X w3.heap.size es bs qs ts ge4 gb4 gq4 gt4 ks4 us4) := co4.g.below hbx
  have him := cb.impl_ok es.length bs.length qs.length ts.length F.out HCO.out
  rw [HOK.out] at him
  have HX : Hid (X.heap[w4.heap.size]? = some (.cells #[.slice (some ⟨ge4, 0, none⟩) es.length es.length, .slice (some ⟨gb4, 0, none⟩) bs.length bs.length, .slice (some ⟨gq4, 0, none⟩) qs.length qs.length, .slice (some ⟨gt4, 0, none⟩) ts.length ts.length] 39 (0, 0))) := hx
  have y0 : X.cell? ⟨w4.heap.size, 0, none⟩ = some (.slice (some ⟨ge4, 0, none⟩) es.length es.length) := bcell hx rfl
  have y1 : X.cell? ⟨w4.heap.size, 1, none⟩ = some (.slice (some ⟨gb4, 0, none⟩) bs.length bs.length) := bcell hx rfl
  have y2 : X.cell? ⟨w4.heap.size, 2, none⟩ = some (.slice (some ⟨gq4, 0, none⟩) qs.length qs.length) := bcell hx rfl
  have y3 : X.cell? ⟨w4.heap.size, 3, none⟩ = some (.slice (some ⟨gt4, 0, none⟩) ts.length ts.length) := bcell hx rfl
  clear ht4 d0 d1 d2 d3 co4 hx
  go_wp2_with (go_at_call 13; fail)
  clear hX
  refine him.mono ?_
  rintro e w5 ⟨rfl, hb5⟩
  have hB5 : Below W.heap.size W w5 := hBX.trans (hb5.mono hBX.size)
  obtain ⟨d0, d1, d2, d3⟩ := BOX.out w5 hB5
  have y5 := bstay HX.out hb5 hxl
  have hxl5 : w4.heap.size < w5.heap.size := Nat.lt_of_lt_of_le hxl hb5.size
  have y50 : w5.cell? ⟨w4.heap.size, 0, none⟩ = some (.slice (some ⟨ge4, 0, none⟩) es.length es.length) := bcell y5 rfl
  have y51 : w5.cell? ⟨w4.heap.size, 1, none⟩ = some (.slice (some ⟨gb4, 0, none⟩) bs.length bs.length) := bcell y5 rfl
  have y52 : w5.cell? ⟨w4.heap.size, 2, none⟩ = some (.slice (some ⟨gq4, 0, none⟩) qs.length qs.length) := bcell y5 rfl
  have y53 : w5.cell? ⟨w4.heap.size, 3, none⟩ = some (.slice (some ⟨gt4, 0, none⟩) ts.length ts.length) := bcell y5 rfl
  have HY5 : Hid (w5.heap[w4.heap.size]? = some (.cells #[.slice (some ⟨ge4, 0, none⟩) es.length es.length, .slice (some ⟨gb4, 0, none⟩) bs.length bs.length, .slice (some ⟨gq4, 0, none⟩) qs.length qs.length, .slice (some ⟨gt4, 0, none⟩) ts.length ts.length] 39 (0, 0))) := y5
  have ht6 := to_core es bs qs ts ea ba qa ta ec bc qc tc w5.drew F.out.el F.out.bl F.out.ql F.out.tl FX.out.1 FX.out.2 (rl.SE.inn HSE.out.1 hB5.drew) (rl.SB.inn HSE.out.2.1 hB5.drew) (HSE.out.2.2.1.inn hB5.drew) (HSE.out.2.2.2.inn hB5.drew)
  have HCO5 : Hid (Cg w5 w3.heap.size es bs qs ts ge4 gb4 gq4 gt4 ks4 us4) := HCO.out.below hb5
  clear him y0 y1 y2 y3 y5
  go_wp2
  go_region_with (first | (go_at_call 12; refine ht6.mono ?_; rintro e w6 ⟨ge6, gb6, gq6, gt6, ks6, us6, rfl, co6, hb6⟩; have hb6' : Below w5.heap.size w5 w6 := (Below.drew (Below.refl _ w5)).trans hb6; obtain ⟨⟨q50, q51, q52, q53⟩, heq⟩ := step6 F.out hb6' hxl5 HY5.out HCO5.out co6.g; clear co6) | (go_at_call 14; refine heq.mono ?_; rintro e w7 ⟨rfl, hb7⟩))
  all_goals go_wp2
  all_goals go_ret
  all_goals exact ⟨rfl, hb.trans ((hB5.trans ((hb6'.trans (hb7.mono hb6'.size)).mono hB5.size)).mono hb.size)⟩
end Go.Proofs.YtpkljkahdclcgaaGreat.lwCoreOk
