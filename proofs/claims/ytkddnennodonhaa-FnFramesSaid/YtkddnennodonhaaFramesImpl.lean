/- The program's list of frames: the same frames, the same count of bytes and the same code as the specification's. -/
import Derived.Test.YtkddnennodonhaaFramesIter
import Derived.Maps.AppendAt
namespace Go.Proofs.Ytkddnennodonhaa.fm
open Go.RowKit Go.Shelf Go.Proofs.Ytkddnennodonhaa.fs Go.Proofs.Ytkddnennodonhaa.fi
set_option linter.unusedVariables false
attribute [local go_sem] Oper.semAt_some

/-- what the row of frames is, in a box -/
def Out (b : Nat) (W : World) (B : Nat) (pre : List ByteArray) : Prop := ∃ v, Boxed W B 32 v ∧ W.ownsRow b 25 3 v pre.length (rows (pre.map fOf))
/-- between two rounds -/
structure Mid (w : World) (pre : List ByteArray) (W : World) : Prop where
  good : fi.Good pre
  few : pre.length < 200
  out : Out w.heap.size W (w.heap.size + 1 + 1 + 1) pre
  sz : Boxed W (w.heap.size + 1 + 1 + 1 + 1) 3 (.int .i64 (tot pre : Nat))
  r0 : Boxed W w.heap.size 32 (.slice none 0 0)
  r1 : Boxed W (w.heap.size + 1) 3 (.int .i64 0)
  r2 : Boxed W (w.heap.size + 1 + 1) 3 (.int .i64 0)
  bel : Below w.heap.size w W
/-- a round has left: by the return, or full -/
structure Left1 (w : World) (pre : List ByteArray) (W : World) : Prop where
  was : ∃ p0 x, pre = p0 ++ [x] ∧ fi.Good p0 ∧ p0.length < 200 ∧ nf.code x ≠ 0 ∧ Out w.heap.size W w.heap.size p0 ∧ Boxed W (w.heap.size + 1) 3 (.int .i64 (tot p0 : Nat)) ∧ Boxed W (w.heap.size + 1 + 1) 3 (.int .i64 (nf.code x))
  bel : Below w.heap.size w W
structure Left2 (w : World) (pre : List ByteArray) (W : World) : Prop where
  good : fi.Good pre
  full : pre.length = 200
  out : Out w.heap.size W (w.heap.size + 1 + 1 + 1) pre
  sz : Boxed W (w.heap.size + 1 + 1 + 1 + 1) 3 (.int .i64 (tot pre : Nat))
  r0 : Boxed W w.heap.size 32 (.slice none 0 0)
  r1 : Boxed W (w.heap.size + 1) 3 (.int .i64 0)
  r2 : Boxed W (w.heap.size + 1 + 1) 3 (.int .i64 0)
  bel : Below w.heap.size w W
def Left (w : World) (c : Code) (pre : List ByteArray) (W : World) : Prop := (c = .ret ∧ Left1 w pre W) ∨ (c = .exit 0 ∧ Left2 w pre W)

section
variable {A B : World} {row : Option Nat} {C : Nat}
theorem box_keep {X : Nat} {t : TypeId} {v : Value} (h : Boxed A X t v) (hg : A.grownBy B row) (hr : ∀ r, row = some r → C ≤ r ∧ ∃ o : Obj, A.heap[r]? = some o ∧ o.isCells = false) : Boxed B X t v :=
  boxed_own X t (fun (_ : Unit) => v) () A B row h hg (fun r e => (hr r e).2)
theorem out_keep {b X : Nat} {pre : List ByteArray} (h : Out b A X pre) (hg : A.grownBy B row) (hr : ∀ r, row = some r → C ≤ r ∧ ∃ o : Obj, A.heap[r]? = some o ∧ o.isCells = false) : Out b B X pre := by
  obtain ⟨v, h1, h2⟩ := h
  obtain ⟨v', h1', h2', _⟩ := holdsRow_own b X 32 25 3 (fun (_ : Unit) => pre.length) (fun _ => rows (pre.map fOf)) (fun _ _ => True) () A B row ⟨v, h1, h2, trivial⟩ hg (fun r e => (hr r e).2)
  exact ⟨v', h1', h2'⟩
theorem bel_keep {w : World} (h : Below w.heap.size w A) (hC : w.heap.size ≤ C) (hg : A.grownBy B row) (hr : ∀ r, row = some r → C ≤ r ∧ ∃ o : Obj, A.heap[r]? = some o ∧ o.isCells = false) : Below w.heap.size w B :=
  ownFrom_below (β := Unit) (Nat.le_refl _) hC () A B row h hg hr
end
theorem mid_own {w : World} {C : Nat} (hC : w.heap.size ≤ C) : OwnFrom C (Mid w) := fun s A B row h hg hr =>
  ⟨h.good, h.few, out_keep h.out hg hr, box_keep h.sz hg hr, box_keep h.r0 hg hr, box_keep h.r1 hg hr, box_keep h.r2 hg hr, bel_keep h.bel hC hg hr⟩
theorem left_own {w : World} {C : Nat} (hC : w.heap.size ≤ C) (c : Code) : OwnFrom C (Left w c) := fun s A B row h hg hr => by
  rcases h with ⟨hc, ⟨p0, x, h1, h2, h3, h4, h5, h6, h7⟩, h8⟩ | ⟨hc, h⟩
  · exact .inl ⟨hc, ⟨p0, x, h1, h2, h3, h4, out_keep h5 hg hr, box_keep h6 hg hr, box_keep h7 hg hr⟩, bel_keep h8 hC hg hr⟩
  · exact .inr ⟨hc, h.good, h.full, out_keep h.out hg hr, box_keep h.sz hg hr, box_keep h.r0 hg hr, box_keep h.r1 hg hr, box_keep h.r2 hg hr, bel_keep h.bel hC hg hr⟩

theorem row_set {W : World} {base n : Nat} {v u u' : Value} {xs : List Value} {X : Nat} {t : TypeId} (hb : Boxed W X t u) (ht : t ≠ 25) (h : W.ownsRow base 25 3 v n xs) : (W.setCell ⟨X, 0, none⟩ u').ownsRow base 25 3 v n xs :=
  h.kept (grownBy_setCell' W X u') (.inr (fun e => hb.not_row ht h e.symm))
theorem row_to {W : World} {base n n' : Nat} {v : Value} {xs xs' : List Value} (h : W.ownsRow base 25 3 v n xs) (e1 : n = n') (e2 : xs = xs') : W.ownsRow base 25 3 v n' xs' := by subst e1; subst e2; exact h
theorem box_to {W : World} {X : Nat} {t : TypeId} {v v' : Value} (h : Boxed W X t v) (e : v = v') : Boxed W X t v' := by subst e; exact h
theorem pay_size {x : ByteArray} (h : nf.code x = 0) : (fx x).p.size = nf.len x ∧ nf.len x ≤ 4000 := by
  have h1 := nf.code_ok.1 h
  have e : (fx x).p = nf.pay x := by simp [fx, h, fOf]
  rw [e]
  unfold nf.pay
  rw [ByteArray.size_extract]
  omega
theorem good_snoc {pre : List ByteArray} {x : ByteArray} (h : fi.Good pre) (hx : nf.code x = 0) : fi.Good (pre ++ [x]) := fun y hy => by
  rcases List.mem_append.1 hy with h1 | h1
  · exact h y h1
  · simp at h1
    subst h1
    exact hx

/-- the frame's box of a round -/
def Fbox (W : World) (X : Nat) (x : ByteArray) : Prop := W.heap[X]? = some (.cells #[.int .i64 (fx x).k, .int .i64 (fx x).c, .string (fx x).p] 25 (0, 0))
theorem fbox_keep {A B : World} {row : Option Nat} {C X : Nat} {x : ByteArray} (h : Fbox A X x) (hg : A.grownBy B row) (hr : ∀ r, row = some r → C ≤ r ∧ ∃ o : Obj, A.heap[r]? = some o ∧ o.isCells = false) : Fbox B X x := by
  have hlt : X < A.heap.size := (Array.getElem?_eq_some_iff.1 h).1
  refine (hg.block X hlt (fun e => ?_)).trans h
  obtain ⟨_, o, ho, hc⟩ := hr X e.symm
  rw [show A.heap[X]? = _ from h] at ho
  cases ho
  cases hc

/-- how a round begins -/
def Ax (w : World) (s x : ByteArray) (a' : Act) (W : World) : Prop :=
  ∃ X v, w.heap.size + 4 < X ∧ Fbox W X x ∧ Boxed W (w.heap.size + 1 + 1 + 1) 32 v ∧ some X ≠ v.ownBlock ∧
    a' = { tmps := #[.string s, undef, .pointer (some ⟨w.heap.size, 0, none⟩), .pointer (some ⟨w.heap.size + 1, 0, none⟩), .pointer (some ⟨w.heap.size + 1 + 1, 0, none⟩), .pointer (some ⟨w.heap.size + 1 + 1 + 1, 0, none⟩), .pointer (some ⟨w.heap.size + 1 + 1 + 1 + 1, 0, none⟩), .pointer (some ⟨X, 0, none⟩), .int .i64 (nf.code x), .string s, .func (.func 80) #[] #[.pointer (some ⟨w.heap.size + 1 + 1 + 1 + 1 + 1, 0, none⟩)], .agg #[.int .i64 (fx x).k, .int .i64 (fx x).c, .string (fx x).p], .int .i64 (nf.code x), undef, undef, undef, undef, undef, undef, undef, undef, undef, undef, undef, undef, undef, undef, undef, undef, undef, undef, undef, undef], defers := [] }

/-- the end: what was answered is read behind the loop's book-keeping -/
theorem fin_of {w W3 : World} {D n0 tt : Nat} {pre : List ByteArray} {l0 : List Fr} {c c0 : Int} {v : Value} (hD : w.heap.size + 5 < D) (hK : W3.heap[D]? = some (.deferred (some [])))
    (k0 : Boxed W3 w.heap.size 32 v) (k1 : Boxed W3 (w.heap.size + 1) 3 (.int .i64 (tt : Nat))) (k2 : Boxed W3 (w.heap.size + 1 + 1) 3 (.int .i64 c))
    (kr : W3.ownsRow w.heap.size 25 3 v pre.length (rows (pre.map fOf))) (kb : Below w.heap.size w W3) (e1 : pre.map fOf = l0) (e2 : ((tt : Nat) : Int) = n0) (e3 : c = c0) :
    ((W3.putObj D (.deferred none)).cell? ⟨w.heap.size, 0, none⟩ = some v ∧ (W3.putObj D (.deferred none)).cell? ⟨w.heap.size + 1, 0, none⟩ = some (.int .i64 n0) ∧ (W3.putObj D (.deferred none)).cell? ⟨w.heap.size + 1 + 1, 0, none⟩ = some (.int .i64 c0)) ∧
    Rowed (W3.putObj D (.deferred none)) w.heap.size v l0 ∧ Below w.heap.size w (W3.putObj D (.deferred none)) := by
  subst e1 e3
  rw [← e2]
  have hkeep : ∀ {X : Nat} {t : TypeId} {u : Value}, Boxed W3 X t u → (W3.putObj D (.deferred none)).cell? ⟨X, 0, none⟩ = some u := fun h =>
    cell_kept h.cell (grownBy_putObj' _ D (.deferred none)) (fun r e => by cases e; exact ⟨_, hK, rfl⟩)
  refine ⟨⟨hkeep k0, hkeep k1, hkeep k2⟩, rowed_of_owns (row_to (ownsRow_putObj kr _ hK rfl) (by simp) rfl), kb.trans (belowK_b (w := w) (Nat.le_refl _) W3 D _ _ (by omega) hK rfl rfl)⟩

set_option maxRecDepth 100000 in
set_option maxHeartbeats 4000000 in
theorem impl_frames (s : ByteArray) (w : World) (hs : s.size ≤ 1048576) :
    Calls Try.prog 27 #[.string s] w fun e w' => (∃ v, e = .returned (.tuple #[v, .int .i64 (frs 200 s).2.1, .int .i64 (frs 200 s).2.2]) ∧ Rowed w' w.heap.size v (frs 200 s).1) ∧ Below w.heap.size w w' := by
  have mixed : Try.prog.follows .mixedOrders = true := by kernel_rfl
  obtain ⟨i0, hi, hz0, hz1, hz2⟩ := info_parts infoF
  obtain ⟨⟨l0, n0, cc0⟩, hL⟩ : ∃ L, frs 200 s = L := ⟨_, rfl⟩
  rw [hL]
  have HL : Hid (frs 200 s = (l0, n0, cc0)) := hL
  clear hL
  refine (callsIn_wide (n := 9)).1 ?_
  refine callsIn_of_wp_marks Try.func27 rfl trivial ?_ rfl
  simp only [Try.ntmps27, List.size_toArray, List.length_cons, List.length_nil, Nat.reduceAdd, Nat.reduceSub, Array.replicate_succ, Array.replicate_zero, List.push_toArray, List.append_toArray, List.nil_append, List.cons_append]
  gi_wp2_with (refine ⟨trivial, ?_⟩; gi_at_call 68; refine (each_in _ s _).mono ?_; rintro e w' ⟨rfl, rfl⟩)
  have b0 := (((((Boxed.new w 32 (.slice none 0 0)).alloc (.cells #[.int .i64 0] 3)).alloc (.cells #[.int .i64 0] 3)).alloc (.cells #[.slice none 0 0] 32)).alloc (.cells #[.int .i64 0] 3)).alloc (.cells #[.string s] 9)
  have b1 := ((((Boxed.new (w.alloc (.cells #[.slice none 0 0] 32)) 3 (.int .i64 0)).alloc (.cells #[.int .i64 0] 3)).alloc (.cells #[.slice none 0 0] 32)).alloc (.cells #[.int .i64 0] 3)).alloc (.cells #[.string s] 9)
  have b2 := (((Boxed.new ((w.alloc (.cells #[.slice none 0 0] 32)).alloc (.cells #[.int .i64 0] 3)) 3 (.int .i64 0)).alloc (.cells #[.slice none 0 0] 32)).alloc (.cells #[.int .i64 0] 3)).alloc (.cells #[.string s] 9)
  have b3 := ((Boxed.new (((w.alloc (.cells #[.slice none 0 0] 32)).alloc (.cells #[.int .i64 0] 3)).alloc (.cells #[.int .i64 0] 3)) 32 (.slice none 0 0)).alloc (.cells #[.int .i64 0] 3)).alloc (.cells #[.string s] 9)
  have b4 := (Boxed.new ((((w.alloc (.cells #[.slice none 0 0] 32)).alloc (.cells #[.int .i64 0] 3)).alloc (.cells #[.int .i64 0] 3)).alloc (.cells #[.slice none 0 0] 32)) 3 (.int .i64 0)).alloc (.cells #[.string s] 9)
  have b5 := Boxed.new (((((w.alloc (.cells #[.slice none 0 0] 32)).alloc (.cells #[.int .i64 0] 3)).alloc (.cells #[.int .i64 0] 3)).alloc (.cells #[.slice none 0 0] 32)).alloc (.cells #[.int .i64 0] 3)) 9 (.string s)
  simp only [World.size_alloc] at b1 b2 b3 b4 b5
  have hB0 : Below w.heap.size w ((((((w.alloc (.cells #[.slice none 0 0] 32)).alloc (.cells #[.int .i64 0] 3)).alloc (.cells #[.int .i64 0] 3)).alloc (.cells #[.slice none 0 0] 32)).alloc (.cells #[.int .i64 0] 3)).alloc (.cells #[.string s] 9)) := ((((((Below.refl _ w).alloc (Nat.le_refl _) _).alloc (by simp) _).alloc (by simp; omega) _).alloc (by simp; omega) _).alloc (by simp; omega) _).alloc (by simp; omega) _
  have hsz : ((((((w.alloc (.cells #[.slice none 0 0] 32)).alloc (.cells #[.int .i64 0] 3)).alloc (.cells #[.int .i64 0] 3)).alloc (.cells #[.slice none 0 0] 32)).alloc (.cells #[.int .i64 0] 3)).alloc (.cells #[.string s] 9)).heap.size = w.heap.size + 6 := by simp
  obtain ⟨W0, hW0⟩ : ∃ W0, (((((w.alloc (.cells #[.slice none 0 0] 32)).alloc (.cells #[.int .i64 0] 3)).alloc (.cells #[.int .i64 0] 3)).alloc (.cells #[.slice none 0 0] 32)).alloc (.cells #[.int .i64 0] 3)).alloc (.cells #[.string s] 9) = W0 := ⟨_, rfl⟩
  rw [hW0] at b0 b1 b2 b3 b4 b5 hB0 hsz ⊢
  clear hW0
  refine wpIn_rangeFunc_ownH rfl (by omega) (gf := 80) (lb := #[.pointer (some ⟨w.heap.size + 1 + 1 + 1 + 1 + 1, 0, none⟩)]) rfl trivial (enters_of Try.func80 (by kernel_rfl) rfl)
    (each_stops 8 (w.heap.size + 1 + 1 + 1 + 1 + 1) w.heap.size (by omega) s hs W0 (by omega) b5.cell) belowK_t (belowK_b (by omega)) (Below.refl _ _) (fun _ => rfl)
    (Mid w) (Left w) (mid_own (by omega)) (left_own (by omega))
    ⟨(fun x hx => by simp at hx), (by simp), ⟨_, b3, World.ownsRow_nil _ _ _ _⟩, b4, b0, b1, b2, hB0⟩
    (Ax w s)
    (fun x a' _ A B row h hg hr => by
      obtain ⟨X, v, h1, h2, h3, h4, h5⟩ := h
      exact ⟨X, v, h1, fbox_keep h2 hg hr, box_keep h3 hg hr, h4, h5⟩)
    ?assign ?body ?done ?stop
  case assign =>
    rintro l pre x W K hI hK
    obtain ⟨v, hv, hrow⟩ := hI.out
    have hsW := hI.bel.size
    have hlW := hI.sz.lt
    have henc : encs x = #[.agg #[.int .i64 (fx x).k, .int .i64 (fx x).c, .string (fx x).p], .int .i64 (nf.code x)] := rfl
    have hax : ∀ a', a' = { tmps := #[.string s, undef, .pointer (some ⟨w.heap.size, 0, none⟩), .pointer (some ⟨w.heap.size + 1, 0, none⟩), .pointer (some ⟨w.heap.size + 1 + 1, 0, none⟩), .pointer (some ⟨w.heap.size + 1 + 1 + 1, 0, none⟩), .pointer (some ⟨w.heap.size + 1 + 1 + 1 + 1, 0, none⟩), .pointer (some ⟨W.heap.size, 0, none⟩), .int .i64 (nf.code x), .string s, .func (.func 80) #[] #[.pointer (some ⟨w.heap.size + 1 + 1 + 1 + 1 + 1, 0, none⟩)], .agg #[.int .i64 (fx x).k, .int .i64 (fx x).c, .string (fx x).p], .int .i64 (nf.code x), undef, undef, undef, undef, undef, undef, undef, undef, undef, undef, undef, undef, undef, undef, undef, undef, undef, undef, undef, undef], defers := [] } →
        K a' (W.alloc (.cells #[.int .i64 (fx x).k, .int .i64 (fx x).c, .string (fx x).p] 25)) := fun a' ha' => by
      have hax1 : Fbox (W.alloc (.cells #[.int .i64 (fx x).k, .int .i64 (fx x).c, .string (fx x).p] 25)) W.heap.size x := heap_alloc_new W _
      refine hK a' _ ((KeepsOthers.alloc _ _).from _) ((Below.refl _ W).alloc hsW _) (mid_own (Nat.le_refl _) pre W _ none hI (World.grownBy_alloc W _ none) (fun r e => by cases e)) ⟨W.heap.size, v, by omega, hax1, hv.alloc _, fun e => ?_, ha'⟩
      have := (hrow.lt W.heap.size e.symm).2
      omega
    rw [henc]
    obtain ⟨fk, hfk⟩ : ∃ fk, (fx x).k = fk := ⟨_, rfl⟩
    obtain ⟨fc, hfc⟩ : ∃ fc, (fx x).c = fc := ⟨_, rfl⟩
    obtain ⟨fp, hfp⟩ : ∃ fp, (fx x).p = fp := ⟨_, rfl⟩
    obtain ⟨fd, hfd⟩ : ∃ fd, nf.code x = fd := ⟨_, rfl⟩
    rw [hfk, hfc, hfp, hfd]
    rw [hfk, hfc, hfp, hfd] at hax
    have HAX : Hid _ := hax
    clear hax hK henc hfk hfc hfp hfd
    gi_wp2
    exact HAX.out _ rfl
  case body =>
    rintro l pre x a' W hl ⟨rr, hrr⟩ hI ⟨X, v, hX, hF, hv, hne, rfl⟩ hlt
    obtain ⟨v2, hv2, hrow⟩ := hI.out
    obtain rfl : v = v2 := by
      have h := (show W.heap[w.heap.size + 1 + 1 + 1]? = _ from hv).symm.trans hv2
      simpa using h
    clear hv2
    have hF0 : Hid (Fbox W X x) := hF
    have cX0 : W.cell? ⟨X, 0, none⟩ = some (.int .i64 (fx x).k) := by simp [World.cell?, show W.heap[X]? = _ from hF]
    have cX1 : W.cell? ⟨X, 1, none⟩ = some (.int .i64 (fx x).c) := by simp [World.cell?, show W.heap[X]? = _ from hF]
    have cX2 : W.cell? ⟨X, 2, none⟩ = some (.string (fx x).p) := by simp [World.cell?, show W.heap[X]? = _ from hF]
    have hXl : X < W.heap.size := (Array.getElem?_eq_some_iff.1 hF).1
    clear hF
    have cv := hv.cell
    have fv := hv.frozen
    have csz := hI.sz.cell
    have fsz := hI.sz.frozen
    have c0 := hI.r0.cell
    have f0 := hI.r0.frozen
    have c1 := hI.r1.cell
    have f1 := hI.r1.frozen
    have c2 := hI.r2.cell
    have f2 := hI.r2.frozen
    have hsW := hI.bel.size
    have HI : Hid (Mid w pre W) := hI
    have htot := tot_le pre hI.good
    have hfew := hI.few
    obtain ⟨tt, htt⟩ : ∃ tt, tot pre = tt := ⟨_, rfl⟩
    rw [htt] at htot csz
    have HTT : Hid (tot pre = tt) := htt
    obtain ⟨ao, vc, hvs⟩ := slice_of hrow
    subst hvs
    clear htt hI
    by_cases hc : nf.code x = 0
    · obtain ⟨hps, hpl⟩ := pay_size hc
      have hfx : fx x = fOf x := by simp [fx, hc]
      obtain ⟨⟨fk, fc, fp⟩, hff⟩ : ∃ f, fOf x = f := ⟨_, rfl⟩
      rw [hfx, hff] at hps cX0 cX1 cX2 ⊢
      rw [hc]
      have HFX : Hid (fx x = ⟨fk, fc, fp⟩) := hfx.trans hff
      have HFO : Hid (fOf x = ⟨fk, fc, fp⟩) := hff
      have HPS : Hid (fp.size = nf.len x) := hps
      have hp4 : fp.size ≤ 4000 := by rw [show fp.size = nf.len x from hps]; exact hpl
      clear hfx hff hps
      gi_wp2_with (gi_at_builtin; refine wpListIn_append_own _ rfl _ _ 32 rfl w.heap.size 25 i0 (.agg #[.int .i64 0, .int .i64 0, .string ⟨#[]⟩]) 3 32 Try.underlying32 hi hz0 hz1 hz2 rfl (by decide) _ _ _ rfl (hrow.alloc _) ⟨W.heap.size, 0, none⟩ 1 1 [.int .i64 fk, .int .i64 fc, .string fp] rfl rfl (cell3_new W _ _ _ _) (by intro u hu; simp at hu; rcases hu with rfl | rfl | rfl <;> rfl) (by unfold maxLen; omega) (by omega) (by simp; omega) ?_; intro v' w1 hown' hgrow _; obtain ⟨g', cap', rfl⟩ := ownsRow_succ hown'; obtain ⟨hv1, hv2, hr2, hk2, hb2⟩ := hv.appended (by decide) hrow hsW (by omega) hown' hgrow; have cw1 := hv1.cell; have fw1 := hv1.frozen; have bs1 := (HI.out.sz.alloc _).kept hgrow (HI.out.sz.not_row (by decide) hrow); have cs1 := bs1.cell; have fs1 := bs1.frozen; rw [HTT.out] at cs1; have hX1 : w1.heap[X]? = _ := (hgrow.block X (by simp; omega) hne).trans ((Below.heap_alloc W _ X hXl).trans hF0.out); have cX3 : w1.cell? ⟨X, 2, none⟩ = some (.string fp) := by (simp [World.cell?, hX1, HFX.out]))
      all_goals rename_i h200
      all_goals have q0 := (((HI.out.r0.alloc _).kept hgrow (HI.out.r0.not_row (by decide) hrow)).other (B' := w.heap.size + 1 + 1 + 1) (by omega) (.slice (some ⟨g', 0, none⟩) (pre.length + 1) cap')).other (B' := w.heap.size + 1 + 1 + 1 + 1) (by omega) (.int .i64 ((tt : Int) + ((fp.size : Int) + 8)))
      all_goals have q1 := (((HI.out.r1.alloc _).kept hgrow (HI.out.r1.not_row (by decide) hrow)).other (B' := w.heap.size + 1 + 1 + 1) (by omega) (.slice (some ⟨g', 0, none⟩) (pre.length + 1) cap')).other (B' := w.heap.size + 1 + 1 + 1 + 1) (by omega) (.int .i64 ((tt : Int) + ((fp.size : Int) + 8)))
      all_goals have q2 := (((HI.out.r2.alloc _).kept hgrow (HI.out.r2.not_row (by decide) hrow)).other (B' := w.heap.size + 1 + 1 + 1) (by omega) (.slice (some ⟨g', 0, none⟩) (pre.length + 1) cap')).other (B' := w.heap.size + 1 + 1 + 1 + 1) (by omega) (.int .i64 ((tt : Int) + ((fp.size : Int) + 8)))
      all_goals have q3 := hv2.other (B' := w.heap.size + 1 + 1 + 1 + 1) (by omega) (.int .i64 ((tt : Int) + ((fp.size : Int) + 8)))
      all_goals have q4 := (bs1.other (B' := w.heap.size + 1 + 1 + 1) (by omega) (.slice (some ⟨g', 0, none⟩) (pre.length + 1) cap')).set (.int .i64 ((tt : Int) + ((fp.size : Int) + 8)))
      all_goals have qr := row_set (u' := .int .i64 ((tt : Int) + ((fp.size : Int) + 8))) (bs1.other (B' := w.heap.size + 1 + 1 + 1) (by omega) (.slice (some ⟨g', 0, none⟩) (pre.length + 1) cap')) (by decide) hr2
      all_goals have qb := hb2.setCell (p := ⟨w.heap.size + 1 + 1 + 1 + 1, 0, none⟩) (by simp; omega) (.int .i64 ((tt : Int) + ((fp.size : Int) + 8)))
      all_goals have qk := hk2.trans (KeepsOthers.setCell _ ⟨w.heap.size + 1 + 1 + 1 + 1, 0, none⟩ (.int .i64 ((tt : Int) + ((fp.size : Int) + 8))))
      all_goals have et : (tt : Int) + ((fp.size : Int) + 8) = ((tot (pre ++ [x]) : Nat) : Int) := by rw [tot_snoc, HTT.out, ← HPS.out]; omega
      all_goals have er : rows (pre.map fOf) ++ [.int .i64 fk, .int .i64 fc, .string fp] = rows ((pre ++ [x]).map fOf) := by rw [List.map_append, List.map_cons, List.map_nil, rows_snoc, HFO.out]; rfl
      all_goals have el : pre.length + 1 = (pre ++ [x]).length := by simp
      all_goals have qr := row_to qr el er
      all_goals have q4 := box_to q4 (congrArg (Value.int .i64) et)
      · have hl200 : (pre ++ [x]).length = 200 := by
          have := eq_of_beq h200
          simp
          omega
        exact ⟨qk.from _, .inr ⟨rfl, good_snoc HI.out.good hc, hl200, ⟨_, q3, qr⟩, q4, q0, q1, q2, HI.out.bel.trans qb⟩⟩
      · have hl200 : (pre ++ [x]).length < 200 := by
          have := ne_of_beq_false h200
          simp
          omega
        exact ⟨qk.from _, qb, good_snoc HI.out.good hc, hl200, ⟨_, q3, qr⟩, q4, q0, q1, q2, HI.out.bel.trans qb⟩
    · obtain ⟨d, hd⟩ : ∃ d, nf.code x = d := ⟨_, rfl⟩
      rw [hd]
      have HD : Hid (nf.code x = d) := hd
      rw [hd] at hc
      have hdb : (d == 0) = false := by simpa using hc
      clear hd
      have hI := HI.out
      have k0 := ((hI.r0.set (.slice ao pre.length vc)).other (B' := w.heap.size + 1) (by omega) (.int .i64 tt)).other (B' := w.heap.size + 1 + 1) (by omega) (.int .i64 d)
      have k1 := (((hI.r1.other (B' := w.heap.size) (by omega) (.slice ao pre.length vc)).set (.int .i64 tt))).other (B' := w.heap.size + 1 + 1) (by omega) (.int .i64 d)
      have k2 := ((hI.r2.other (B' := w.heap.size) (by omega) (.slice ao pre.length vc)).other (B' := w.heap.size + 1) (by omega) (.int .i64 tt)).set (.int .i64 d)
      have kr := row_set (u' := .int .i64 d) ((hI.r2.other (B' := w.heap.size) (by omega) (.slice ao pre.length vc)).other (B' := w.heap.size + 1) (by omega) (.int .i64 tt)) (by decide) (row_set (u' := .int .i64 tt) (hI.r1.other (B' := w.heap.size) (by omega) (.slice ao pre.length vc)) (by decide) (row_set (u' := .slice ao pre.length vc) hI.r0 (by decide) hrow))
      have kk := (((KeepsOthers.setCell W ⟨w.heap.size, 0, none⟩ (.slice ao pre.length vc)).trans (KeepsOthers.setCell _ ⟨w.heap.size + 1, 0, none⟩ (.int .i64 tt))).trans (KeepsOthers.setCell _ ⟨w.heap.size + 1 + 1, 0, none⟩ (.int .i64 d))).trans (KeepsOthers.drew _)
      have kb := (((hI.bel.setCell (p := ⟨w.heap.size, 0, none⟩) (by simp) (.slice ao pre.length vc)).setCell (p := ⟨w.heap.size + 1, 0, none⟩) (by simp) (.int .i64 tt)).setCell (p := ⟨w.heap.size + 1 + 1, 0, none⟩) (by simp; omega) (.int .i64 d)).drew
      have hg := hI.good
      clear hI
      have HE : Hid (KeepsFrom W0.heap.size W ((((W.setCell ⟨w.heap.size, 0, none⟩ (.slice ao pre.length vc)).setCell ⟨w.heap.size + 1, 0, none⟩ (.int .i64 tt)).setCell ⟨w.heap.size + 1 + 1, 0, none⟩ (.int .i64 d)).drew) ∧ Left w .ret (pre ++ [x]) ((((W.setCell ⟨w.heap.size, 0, none⟩ (.slice ao pre.length vc)).setCell ⟨w.heap.size + 1, 0, none⟩ (.int .i64 tt)).setCell ⟨w.heap.size + 1 + 1, 0, none⟩ (.int .i64 d)).drew)) :=
        ⟨kk.from _, .inl ⟨rfl, ⟨pre, x, rfl, hg, hfew, by rw [HD.out]; exact hc, ⟨_, k0, kr⟩, by rw [HTT.out]; exact k1, by rw [HD.out]; exact k2⟩, kb⟩⟩
      clear k0 k1 k2 kr kk kb hg
      gi_wp2
      gi_region_o
      all_goals gi_wp2
      all_goals exact HE.out
  case done =>
    rintro D pre W hD rfl hI hK
    obtain ⟨v, hv, hrow⟩ := hI.out
    have hsz4 := hI.sz
    have hr0 := hI.r0
    have hr1 := hI.r1
    have hr2 := hI.r2
    have hbel := hI.bel
    have HE := done_of HL.out (all_done s.size 200 s (Nat.le_refl _) hI.good (Nat.le_of_lt hI.few))
    have hD6 : w.heap.size + 5 < D := by omega
    clear hI
    obtain ⟨pre, hpre⟩ : ∃ pre, rests s.size s = pre := ⟨_, rfl⟩
    rw [hpre] at hrow hsz4 HE
    clear hpre
    have cv := hv.cell
    have fv := hv.frozen
    have csz := hsz4.cell
    have c0 := hr0.cell
    have f0 := hr0.frozen
    have c1 := hr1.cell
    have f1 := hr1.frozen
    have c2 := hr2.cell
    have f2 := hr2.frozen
    obtain ⟨ao, vc, hvs⟩ := slice_of hrow
    subst hvs
    obtain ⟨tt, htt⟩ : ∃ tt, tot pre = tt := ⟨_, rfl⟩
    rw [htt] at csz
    have k0 := ((hr0.set (.slice ao pre.length vc)).other (B' := w.heap.size + 1) (by omega) (.int .i64 tt)).other (B' := w.heap.size + 1 + 1) (by omega) (.int .i64 0)
    have k1 := (((hr1.other (B' := w.heap.size) (by omega) (.slice ao pre.length vc)).set (.int .i64 tt))).other (B' := w.heap.size + 1 + 1) (by omega) (.int .i64 0)
    have k2 := ((hr2.other (B' := w.heap.size) (by omega) (.slice ao pre.length vc)).other (B' := w.heap.size + 1) (by omega) (.int .i64 tt)).set (.int .i64 0)
    have kr := row_set (u' := .int .i64 0) ((hr2.other (B' := w.heap.size) (by omega) (.slice ao pre.length vc)).other (B' := w.heap.size + 1) (by omega) (.int .i64 tt)) (by decide) (row_set (u' := .int .i64 tt) (hr1.other (B' := w.heap.size) (by omega) (.slice ao pre.length vc)) (by decide) (row_set (u' := .slice ao pre.length vc) hr0 (by decide) hrow))
    have hK1 : (((W.setCell ⟨w.heap.size, 0, none⟩ (.slice ao pre.length vc)).setCell ⟨w.heap.size + 1, 0, none⟩ (.int .i64 tt)).setCell ⟨w.heap.size + 1 + 1, 0, none⟩ (.int .i64 0)).heap[D]? = some (.deferred (some [])) := (((KeepsOthers.setCell W ⟨w.heap.size, 0, none⟩ (.slice ao pre.length vc)).trans (KeepsOthers.setCell _ ⟨w.heap.size + 1, 0, none⟩ (.int .i64 tt))).trans (KeepsOthers.setCell _ ⟨w.heap.size + 1 + 1, 0, none⟩ (.int .i64 0))).same D _ hK rfl
    have kb := ((hbel.setCell (p := ⟨w.heap.size, 0, none⟩) (by simp) (.slice ao pre.length vc)).setCell (p := ⟨w.heap.size + 1, 0, none⟩) (by simp) (.int .i64 tt)).setCell (p := ⟨w.heap.size + 1 + 1, 0, none⟩) (by simp; omega) (.int .i64 0)
    have hK2 : ((((W.setCell ⟨w.heap.size, 0, none⟩ (.slice ao pre.length vc)).setCell ⟨w.heap.size + 1, 0, none⟩ (.int .i64 tt)).setCell ⟨w.heap.size + 1 + 1, 0, none⟩ (.int .i64 0)).drew).heap[D]? = some (.deferred (some [])) := hK1
    have HF := fin_of (w := w) hD6 hK2 k0 k1 k2 kr kb.drew (HE.1) (htt ▸ HE.2.1) (HE.2.2)
    have HFH : Hid _ := HF
    clear HF
    have HKH : Hid _ := hK2
    clear hK2 hK1
    clear k0 k1 k2 kr kb hr0 hr1 hr2 hsz4 hv HE hbel htt hrow
    gi_wp2
    gi_region_o
    all_goals gi_wp2
    all_goals refine ⟨by simp, .inl ⟨_, _, rfl, run_takeDeferred HKH.out, ?_⟩⟩
    all_goals obtain ⟨⟨z0, z1, z2⟩, zr, zb⟩ := HFH.out
    all_goals refine ⟨.tuple #[.slice ao pre.length vc, .int .i64 n0, .int .i64 cc0], ?_, ⟨_, rfl, zr⟩, zb⟩
    all_goals simp [results, Try.results27, go_sem, z0, z1, z2]
  case stop =>
    rintro D cc pre W hD hSp hLeft hK
    rcases hLeft with ⟨rfl, ⟨p0, x, rfl, hg, hfew, hcx, ⟨v, hv, hrow⟩, hr1, hr2⟩, hbel⟩ | ⟨rfl, hI⟩
    · have HE := done_of HL.out (bad_done s.size 200 s x p0 hSp hg hcx hfew)
      have HF := fin_of (w := w) (by omega) hK hv hr1 hr2 hrow hbel HE.1 HE.2.1 HE.2.2
      have HFH : Hid _ := HF
      have HKH : Hid _ := hK
      clear HF hv hr1 hr2 hrow hbel HE hSp hK
      gi_wp2
      refine ⟨by simp, .inl ⟨_, _, rfl, run_takeDeferred HKH.out, ?_⟩⟩
      obtain ⟨⟨z0, z1, z2⟩, zr, zb⟩ := HFH.out
      refine ⟨.tuple #[v, .int .i64 n0, .int .i64 cc0], ?_, ⟨_, rfl, zr⟩, zb⟩
      simp [results, Try.results27, go_sem, z0, z1, z2]
    · obtain ⟨v, hv, hrow⟩ := hI.out
      have hsz4 := hI.sz
      have hr0 := hI.r0
      have hr1 := hI.r1
      have hr2 := hI.r2
      have hbel := hI.bel
      have HE := done_of HL.out (full_done s.size 200 s pre hSp hI.good hI.full)
      have hD6 : w.heap.size + 5 < D := by omega
      clear hI hSp
      have cv := hv.cell
      have fv := hv.frozen
      have csz := hsz4.cell
      have c0 := hr0.cell
      have f0 := hr0.frozen
      have c1 := hr1.cell
      have f1 := hr1.frozen
      have c2 := hr2.cell
      have f2 := hr2.frozen
      obtain ⟨ao, vc, hvs⟩ := slice_of hrow
      subst hvs
      obtain ⟨tt, htt⟩ : ∃ tt, tot pre = tt := ⟨_, rfl⟩
      rw [htt] at csz
      have k0 := ((hr0.set (.slice ao pre.length vc)).other (B' := w.heap.size + 1) (by omega) (.int .i64 tt)).other (B' := w.heap.size + 1 + 1) (by omega) (.int .i64 0)
      have k1 := (((hr1.other (B' := w.heap.size) (by omega) (.slice ao pre.length vc)).set (.int .i64 tt))).other (B' := w.heap.size + 1 + 1) (by omega) (.int .i64 0)
      have k2 := ((hr2.other (B' := w.heap.size) (by omega) (.slice ao pre.length vc)).other (B' := w.heap.size + 1) (by omega) (.int .i64 tt)).set (.int .i64 0)
      have kr := row_set (u' := .int .i64 0) ((hr2.other (B' := w.heap.size) (by omega) (.slice ao pre.length vc)).other (B' := w.heap.size + 1) (by omega) (.int .i64 tt)) (by decide) (row_set (u' := .int .i64 tt) (hr1.other (B' := w.heap.size) (by omega) (.slice ao pre.length vc)) (by decide) (row_set (u' := .slice ao pre.length vc) hr0 (by decide) hrow))
      have hK1 : (((W.setCell ⟨w.heap.size, 0, none⟩ (.slice ao pre.length vc)).setCell ⟨w.heap.size + 1, 0, none⟩ (.int .i64 tt)).setCell ⟨w.heap.size + 1 + 1, 0, none⟩ (.int .i64 0)).heap[D]? = some (.deferred (some [])) := (((KeepsOthers.setCell W ⟨w.heap.size, 0, none⟩ (.slice ao pre.length vc)).trans (KeepsOthers.setCell _ ⟨w.heap.size + 1, 0, none⟩ (.int .i64 tt))).trans (KeepsOthers.setCell _ ⟨w.heap.size + 1 + 1, 0, none⟩ (.int .i64 0))).same D _ hK rfl
      have kb := ((hbel.setCell (p := ⟨w.heap.size, 0, none⟩) (by simp) (.slice ao pre.length vc)).setCell (p := ⟨w.heap.size + 1, 0, none⟩) (by simp) (.int .i64 tt)).setCell (p := ⟨w.heap.size + 1 + 1, 0, none⟩) (by simp; omega) (.int .i64 0)
      have hK2 : ((((W.setCell ⟨w.heap.size, 0, none⟩ (.slice ao pre.length vc)).setCell ⟨w.heap.size + 1, 0, none⟩ (.int .i64 tt)).setCell ⟨w.heap.size + 1 + 1, 0, none⟩ (.int .i64 0)).drew).heap[D]? = some (.deferred (some [])) := hK1
      have HF := fin_of (w := w) hD6 hK2 k0 k1 k2 kr kb.drew (HE.1) (htt ▸ HE.2.1) (HE.2.2)
      have HFH : Hid _ := HF
      clear HF
      have HKH : Hid _ := hK2
      clear hK2 hK1
      clear k0 k1 k2 kr kb hr0 hr1 hr2 hsz4 hv HE hbel htt hrow
      gi_wp2
      gi_region_o
      all_goals gi_wp2
      all_goals refine ⟨by simp, .inl ⟨_, _, rfl, run_takeDeferred HKH.out, ?_⟩⟩
      all_goals obtain ⟨⟨z0, z1, z2⟩, zr, zb⟩ := HFH.out
      all_goals refine ⟨.tuple #[.slice ao pre.length vc, .int .i64 n0, .int .i64 cc0], ?_, ⟨_, rfl, zr⟩, zb⟩
      all_goals simp [results, Try.results27, go_sem, z0, z1, z2]
end Go.Proofs.Ytkddnennodonhaa.fm
