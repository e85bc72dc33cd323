/- FnStream: the contracts in the words of its walk: a stream that was drawn, or that was answered, and what is asked of it. -/
import Derived.Test.YtlfhfcgcfggjcaaDrawLibS
import Derived.Test.YtlfhfcgcfggjcaaStreamLaws
import Derived.Test.YtlfhfcgcfggjcaaSameStream
import Derived.Test.YtlfhfcgcfggjcaaStreamPutImpl
import Derived.Test.YtlfhfcgcfggjcaaStreamTrimImpl
import Derived.Test.YtlfhfcgcfggjcaaStreamReadImpl
import Derived.Test.YtlfhfcgcfggjcaaStreamSeekWalks
import Derived.Test.YtlfhfcgcfggjcaaStreamOkImpl
namespace Go.Proofs.Ytlfhfcgcfggjcaa.stt
open Go.ChangeShapes Go.WideShapes Go.ChangeAt Go.RowKit Go.Proofs.Ytlfhfcgcfggjcaa.fl Go.Proofs.Ytlfhfcgcfggjcaa.fo Go.Proofs.Ytlfhfcgcfggjcaa.dw Go.Proofs.Ytlfhfcgcfggjcaa.rr Go.Proofs.Ytlfhfcgcfggjcaa.st Go.Proofs.Ytlfhfcgcfggjcaa.scp Go.Proofs.Ytlfhfcgcfggjcaa.spw Go.Proofs.Ytlfhfcgcfggjcaa.dsl
set_option linter.unusedVariables false

/-- a stream as it lies -/
structure Is (W : World) (es : List flY.En) (ms : List Ex) (ga : Option Addr) (cg : Nat) (ha : Option Addr) (ch : Nat) : Prop where
  re : Row flY.c 3 W W.heap.size ga es
  rm : Row flK.c 2 W W.heap.size ha ms
  pl : ∃ g og k, (ga = some ⟨g, og, none⟩ ∨ ga = none ∧ es.length = 0 ∧ cg = 0) ∧ (0 < ms.length → ha = some ⟨k, 0, none⟩) ∧ ce.RYo W g og es ∧ RE W k ms
  cap : es.length ≤ cg
def sS : ByteArray := ⟨#[115]⟩
theorem sS_small : (⟨#[115]⟩ : ByteArray).size ≤ 1000 := by decide
section
variable {B : Nat} {W W' : World} {lo nx : Int} {es : List flY.En} {ms : List Ex} {ga : Option Addr} {cg : Nat} {ha : Option Addr} {ch : Nat}
theorem Is.below (h : Is W es ms ga cg ha ch) (hb : Below W.heap.size W W') : Is W' es ms ga cg ha ch := by
  obtain ⟨g, og, k, h1, h2, h3, h4⟩ := h.pl
  exact ⟨h.re.inn hb, h.rm.inn hb, ⟨g, og, k, h1, h2, h3.below hb, h4.below hb⟩, h.cap⟩
theorem Dr.is (h : Dr B W es ms ga cg ha ch) (hW : 0 < W.heap.size) : Is W es ms ga cg ha ch := by
  obtain ⟨g, k, n1, n2, r1, r2, l1, l2⟩ := h.use hW
  obtain ⟨q1, q2⟩ := h.rows
  exact ⟨q1, q2, ⟨g, 0, k, (by rcases n1 with n1 | ⟨n1, n3, n4⟩; exact .inl n1; exact .inr ⟨n1, n3, n4⟩), n2.at, ce.ryo r1, r2⟩, l1⟩
theorem ryo_own {g off : Nat} {T : TypeId} (h : OwnO flY.c 3 T W g off es es.length) : ce.RYo W g off es := by
  refine ⟨h.lt, fun i e he => ?_⟩
  rcases h.row with rfl | ⟨b, o2, hb, hlt, hc⟩
  · simp at he
  · cases hb
    exact ⟨by simpa using hc i e he 0 _ rfl, by simpa using hc i e he 1 _ rfl, by simpa using hc i e he 2 _ rfl⟩
theorem re_own {g : Nat} {T : TypeId} (h : OwnO flK.c 2 T W g 0 ms ms.length) : RE W g ms := by
  refine ⟨h.lt, fun i e he => ?_⟩
  rcases h.row with rfl | ⟨b, o2, hb, hlt, hc⟩
  · simp at he
  · cases hb
    exact ⟨by simpa using hc i e he 0 _ rfl, by simpa using hc i e he 1 _ rfl⟩
theorem is_own {g off k : Nat} {T U : TypeId} (h1 : OwnO flY.c 3 T W g off es es.length) (h2 : OwnO flK.c 2 U W k 0 ms ms.length) (hc : es.length ≤ cg) : Is W es ms (some ⟨g, off, none⟩) cg (some ⟨k, 0, none⟩) ch :=
  ⟨h1.row, h2.row, ⟨g, off, k, .inl rfl, fun _ => rfl, ryo_own h1, re_own h2⟩, hc⟩
theorem is_or (h1 : OR flY.c 3 42 W B ga cg es) (h2 : OR flK.c 2 56 W B ha ch ms) (hW : 0 < W.heap.size) : Is W es ms ga cg ha ch := Dr.is (dr_of h1 h2) hW

theorem t_trim (h : Dr B W es ms ga cg ha ch) (hW : 0 < W.heap.size) (hsm : Sm 500 nx es ms) (c o : Int) (hc : c ≤ 7) : Calls Try.prog 6 #[.agg #[.string ⟨#[115]⟩, .int .i64 lo, .int .i64 nx, .slice ga es.length cg, .slice ha ms.length ch], .int .i64 c, .int .i64 o] W fun e w' =>
    ∃ sa ce sb cb, e = .returned (.agg #[.string ⟨#[115]⟩, .int .i64 (strm.ansL ⟨#[115]⟩ lo nx es ms c o), .int .i64 nx, .slice sa (strm.ansE ⟨#[115]⟩ lo nx es ms c o).length ce, .slice sb ms.length cb]) ∧ Is w' (strm.ansE ⟨#[115]⟩ lo nx es ms c o) ms sa ce sb cb ∧ Below W.heap.size W w' := by
  obtain ⟨g, k, n1, n2, r1, r2, l1, l2⟩ := h.use hW
  refine (itrm.impl_trim ⟨#[115]⟩ lo nx es ms g k cg ch c o W (hsm.fit (by omega) sS_small) (by omega) r1 r2 ga ha n1.at n2.at).mono ?_
  rintro e w' ⟨g1, o1, c1, g2, c2, rfl, _, _, _, hcp, m1, m2, hb⟩
  exact ⟨_, _, _, _, rfl, is_own m1 m2 hcp, hb⟩
theorem s_trim (h : Dr B W es ms ga cg ha ch) (hW : 0 < W.heap.size) (hsm : Sm 500 nx es ms) (c o : Int) : Calls Try.prog 7 #[.agg #[.string ⟨#[115]⟩, .int .i64 lo, .int .i64 nx, .slice ga es.length cg, .slice ha ms.length ch], .int .i64 c, .int .i64 o] W fun e w' =>
    ∃ sa ce sb cb, e = .returned (.agg #[.string ⟨#[115]⟩, .int .i64 (strm.ansL ⟨#[115]⟩ lo nx es ms c o), .int .i64 nx, .slice sa (strm.ansE ⟨#[115]⟩ lo nx es ms c o).length ce, .slice sb ms.length cb]) ∧ Is w' (strm.ansE ⟨#[115]⟩ lo nx es ms c o) ms sa ce sb cb ∧ Below W.heap.size W w' := by
  obtain ⟨g, k, n1, n2, r1, r2, l1, l2⟩ := h.use hW
  refine (strm.spec_trim ⟨#[115]⟩ lo nx es ms g k cg ch c o W (hsm.fit (by omega) sS_small) r1 r2 ga ha n1 n2).mono ?_
  rintro e w' ⟨sa, ce, sb, cb, rfl, m1, m2, hb⟩
  exact ⟨_, _, _, _, rfl, is_or m1 m2 (by have := hb.size; omega), hb⟩
theorem t_put (h : Dr B W es ms ga cg ha ch) (hW : 0 < W.heap.size) (hsm : Sm 500 nx es ms) (t : Int) (b : ByteArray) (hbb : b.size ≤ 1048576) : Calls Try.prog 9 #[.agg #[.string ⟨#[115]⟩, .int .i64 lo, .int .i64 nx, .slice ga es.length cg, .slice ha ms.length ch], .int .i64 t, .string b] W fun e w' =>
    ∃ sa ce sb cb, e = .returned (.tuple #[.agg #[.string ⟨#[115]⟩, .int .i64 lo, .int .i64 (sput.ansN ⟨#[115]⟩ lo nx es ms t b), .slice sa (sput.ansE ⟨#[115]⟩ lo nx es ms t b).length ce, .slice sb ms.length cb], .bool (sput.fits ⟨#[115]⟩ lo nx es ms t b)]) ∧ Is w' (sput.ansE ⟨#[115]⟩ lo nx es ms t b) ms sa ce sb cb ∧ Below W.heap.size W w' := by
  obtain ⟨g, k, n1, n2, r1, r2, l1, l2⟩ := h.use hW
  refine (iput.impl_put ⟨#[115]⟩ lo nx es ms g k cg ch t b W (hsm.fit (by omega) sS_small) hbb r1 r2 ga ha n1.at n2.at).mono ?_
  rintro e w' ⟨g1, o1, c1, g2, c2, rfl, _, _, _, hcp, m1, m2, hb⟩
  exact ⟨_, _, _, _, rfl, is_own m1 m2 hcp, hb⟩
theorem s_put (h : Dr B W es ms ga cg ha ch) (hW : 0 < W.heap.size) (hsm : Sm 500 nx es ms) (t : Int) (b : ByteArray) (hbb : b.size ≤ 1048576) : Calls Try.prog 10 #[.agg #[.string ⟨#[115]⟩, .int .i64 lo, .int .i64 nx, .slice ga es.length cg, .slice ha ms.length ch], .int .i64 t, .string b] W fun e w' =>
    ∃ sa ce sb cb, e = .returned (.tuple #[.agg #[.string ⟨#[115]⟩, .int .i64 lo, .int .i64 (sput.ansN ⟨#[115]⟩ lo nx es ms t b), .slice sa (sput.ansE ⟨#[115]⟩ lo nx es ms t b).length ce, .slice sb ms.length cb], .bool (sput.fits ⟨#[115]⟩ lo nx es ms t b)]) ∧ Is w' (sput.ansE ⟨#[115]⟩ lo nx es ms t b) ms sa ce sb cb ∧ Below W.heap.size W w' := by
  obtain ⟨g, k, n1, n2, r1, r2, l1, l2⟩ := h.use hW
  refine (sput.spec_put ⟨#[115]⟩ lo nx es ms g k cg ch t b W (hsm.fit (by omega) sS_small) hbb r1 r2 ga ha n1 n2).mono ?_
  rintro e w' ⟨sa, ce, sb, cb, rfl, m1, m2, hb⟩
  exact ⟨_, _, _, _, rfl, is_or m1 m2 (by have := hb.size; omega), hb⟩
theorem t_seek (h : Dr B W es ms ga cg ha ch) (hW : 0 < W.heap.size) (hsm : Sm 500 nx es ms) (t : Int) : Calls Try.prog 12 #[.agg #[.string ⟨#[115]⟩, .int .i64 lo, .int .i64 nx, .slice ga es.length cg, .slice ha ms.length ch], .int .i64 t] W fun e w' => e = .returned (.int .i64 (ssk.seek ⟨#[115]⟩ lo nx es ms t)) ∧ Below W.heap.size W w' := by
  obtain ⟨g, k, n1, n2, r1, r2, l1, l2⟩ := h.use hW
  exact ssk.impl_seek ⟨#[115]⟩ lo nx es ms g k cg ch t W (hsm.fit (by omega) sS_small) r1 r2 ga ha n1.at n2.at
theorem s_seek (h : Dr B W es ms ga cg ha ch) (hW : 0 < W.heap.size) (hsm : Sm 500 nx es ms) (t : Int) : Calls Try.prog 14 #[.agg #[.string ⟨#[115]⟩, .int .i64 lo, .int .i64 nx, .slice ga es.length cg, .slice ha ms.length ch], .int .i64 t] W fun e w' => e = .returned (.int .i64 (ssk.seek ⟨#[115]⟩ lo nx es ms t)) ∧ Below W.heap.size W w' := by
  obtain ⟨g, k, n1, n2, r1, r2, l1, l2⟩ := h.use hW
  exact ssk.spec_seek ⟨#[115]⟩ lo nx es ms g k cg ch t W (hsm.fit (by omega) sS_small) r1 r2 ga ha n1.at n2.at
theorem s_ok (h : Dr B W es ms ga cg ha ch) (hW : 0 < W.heap.size) (hsm : Sm 500 nx es ms) : Calls Try.prog 16 #[.agg #[.string ⟨#[115]⟩, .int .i64 lo, .int .i64 nx, .slice ga es.length cg, .slice ha ms.length ch]] W fun e w' => e = .returned (.bool (okB ⟨#[115]⟩ lo nx es ms)) ∧ Below W.heap.size W w' := by
  obtain ⟨g, k, n1, n2, r1, r2, l1, l2⟩ := h.use hW
  exact sts.spec_ok ⟨#[115]⟩ lo nx es ms g k cg ch W (hsm.fit (by omega) sS_small) r1 r2 ga ha n1.at n2.at
theorem t_ok (h : Is W es ms ga cg ha ch) (hsm : Sm 1000 nx es ms) : Calls Try.prog 15 #[.agg #[.string ⟨#[115]⟩, .int .i64 lo, .int .i64 nx, .slice ga es.length cg, .slice ha ms.length ch]] W fun e w' => e = .returned (.bool (okB ⟨#[115]⟩ lo nx es ms)) ∧ Below W.heap.size W w' := by
  obtain ⟨g, og, k, h1, h2, h3, h4⟩ := h.pl
  exact sti.impl_okO ⟨#[115]⟩ lo nx es ms g k cg ch W (hsm.fit (by omega) sS_small) og h3 h4 ga ha (fun h0 => by rcases h1 with h1 | ⟨_, h1, _⟩; exact h1; omega) h2
theorem t_read (h : Is W es ms ga cg ha ch) (F : Fit ⟨#[115]⟩ es ms) (off most : Int) : Calls Try.prog 17 #[.agg #[.string ⟨#[115]⟩, .int .i64 lo, .int .i64 nx, .slice ga es.length cg, .slice ha ms.length ch], .int .i64 off, .int .i64 most] W fun e w' =>
    ∃ a cap, e = .returned (.slice a (srd.read ⟨#[115]⟩ lo nx es ms off most).length cap) ∧ Row flY.c 3 w' w'.heap.size a (srd.read ⟨#[115]⟩ lo nx es ms off most) ∧ Below W.heap.size W w' := by
  obtain ⟨g, og, k, h1, h2, h3, h4⟩ := h.pl
  refine (sri.impl_read ⟨#[115]⟩ lo nx es ms g k cg ch off most W F og h3 h4 ga ha h1 h2 h.cap).mono ?_
  rintro e w' ⟨a, cap, rfl, hm, hb⟩
  exact ⟨a, cap, rfl, hm.row, hb⟩
theorem same {a2 b2 : Option Addr} {c2 d2 : Nat} (h : Is W es ms ga cg ha ch) (h2 : Is W es ms a2 c2 b2 d2) (F : Fit ⟨#[115]⟩ es ms) : Calls Try.prog 13 #[.agg #[.string ⟨#[115]⟩, .int .i64 lo, .int .i64 nx, .slice ga es.length cg, .slice ha ms.length ch], .agg #[.string ⟨#[115]⟩, .int .i64 lo, .int .i64 nx, .slice a2 es.length c2, .slice b2 ms.length d2]] W fun e w' => e = .returned (.bool true) ∧ Below W.heap.size W w' :=
  sst.same_stream ⟨#[115]⟩ lo nx es ms ga a2 ha b2 cg c2 ch d2 W F h.re h2.re h.rm h2.rm
end
end Go.Proofs.Ytlfhfcgcfggjcaa.stt
