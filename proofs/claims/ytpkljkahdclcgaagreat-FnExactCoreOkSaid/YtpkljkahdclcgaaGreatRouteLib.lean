/- Routes as a law's argument: what they weigh, laid anew, held beside each other; new memory alone. -/
import Derived.Test.YtpkljkahdclcgaaGreatRouteTo
namespace Go.Proofs.YtpkljkahdclcgaaGreat.rl
open Go.ChangeShapes Go.WideShapes Go.ChangeAt Go.RowKit Go.Proofs.YtpkljkahdclcgaaGreat.rr Go.Proofs.YtpkljkahdclcgaaGreat.ra Go.Proofs.YtpkljkahdclcgaaGreat.rt
set_option linter.unusedVariables false

theorem eq_oneE (e : Ex) (w : World) : Calls Tryz.prog 169 #[.agg #[.string e.n, .int .i64 e.k], .agg #[.string e.n, .int .i64 e.k]] w fun r w' => r = .returned (.bool true) ∧ Below w.heap.size w w' := by
  obtain ⟨en, ek⟩ := e
  go_enter Tryz.func169, Tryz.ntmps169
  go_wp2
  go_ret
  exact ⟨rfl, ((Below.refl _ _).alloc (Nat.le_refl _) _).alloc (by simp) _⟩
set_option maxRecDepth 100000 in
set_option maxHeartbeats 1000000 in
theorem eq_allE (l : List Ex) (g g' c c' : Nat) (w : World) (hl : l.length ≤ 1048576) (ha : RE w g l) (hb : RE w g' l) :
    Calls Tryz.prog 110 #[.slice (some ⟨g, 0, none⟩) l.length c, .slice (some ⟨g', 0, none⟩) l.length c'] w fun e w' => e = .returned (.bool true) ∧ Below w.heap.size w w' := by
  have HA : Hid (RE w g l) := ha
  have HB : Hid (RE w g' l) := hb
  clear ha hb
  go_enter Tryz.func110, Tryz.ntmps110
  go_wp2
  go_loopw [5] (fun x wr => ∃ k : Nat, k ≤ l.length ∧ x = .int .i64 k ∧ Below w.heap.size w wr) (fun x _ => l.length - (intOf x).toNat)
  case atStart => exact ⟨0, Nat.zero_le _, rfl, Below.refl _ _⟩
  case round =>
    obtain ⟨k, hk, rfl, hbel⟩ := hrel
    have hbs := hbel.size
    by_cases hkl : k < l.length
    · have g0 : l[k]? = some l[k] := List.getElem?_eq_getElem hkl
      obtain ⟨a0, a1⟩ := (HA.out.below hbel).2 k _ g0
      obtain ⟨b0, b1⟩ := (HB.out.below hbel).2 k _ g0
      obtain ⟨⟨en, ek⟩, he⟩ : ∃ e, l[k] = e := ⟨_, rfl⟩
      rw [he] at a0 a1 b0 b1
      have hone := eq_oneE ⟨en, ek⟩ wr.drew
      have i2 : (k : Int) < (l.length : Int) := by omega
      clear g0 he
      go_wp2
      go_region_with (go_at_call 169; refine hone.mono ?_; rintro e w1 ⟨rfl, hb1⟩)
      all_goals go_wp2
      all_goals go_roundw
      all_goals first | exact ⟨k + 1, by omega, by go_num, hbel.drew.trans (hb1.mono hbs)⟩ | (simp [intOf]; omega)
    · obtain rfl : k = l.length := by omega
      go_wp2
      go_ret
      exact ⟨rfl, hbel⟩

theorem eq_oneB (e : Bi) (w : World) : Calls Tryz.prog 170 #[.agg #[.string e.x, .string e.k, .string e.q], .agg #[.string e.x, .string e.k, .string e.q]] w fun r w' => r = .returned (.bool true) ∧ Below w.heap.size w w' := by
  obtain ⟨ex, ek, eq⟩ := e
  go_enter Tryz.func170, Tryz.ntmps170
  go_wp2
  go_ret
  exact ⟨rfl, ((Below.refl _ _).alloc (Nat.le_refl _) _).alloc (by simp) _⟩
set_option maxRecDepth 100000 in
set_option maxHeartbeats 1000000 in
theorem eq_allB (l : List Bi) (g g' c c' : Nat) (w : World) (hl : l.length ≤ 1048576) (ha : RB w g l) (hb : RB w g' l) :
    Calls Tryz.prog 111 #[.slice (some ⟨g, 0, none⟩) l.length c, .slice (some ⟨g', 0, none⟩) l.length c'] w fun e w' => e = .returned (.bool true) ∧ Below w.heap.size w w' := by
  have HA : Hid (RB w g l) := ha
  have HB : Hid (RB w g' l) := hb
  clear ha hb
  go_enter Tryz.func111, Tryz.ntmps111
  go_wp2
  go_loopw [5] (fun x wr => ∃ k : Nat, k ≤ l.length ∧ x = .int .i64 k ∧ Below w.heap.size w wr) (fun x _ => l.length - (intOf x).toNat)
  case atStart => exact ⟨0, Nat.zero_le _, rfl, Below.refl _ _⟩
  case round =>
    obtain ⟨k, hk, rfl, hbel⟩ := hrel
    have hbs := hbel.size
    by_cases hkl : k < l.length
    · have g0 : l[k]? = some l[k] := List.getElem?_eq_getElem hkl
      obtain ⟨a0, a1, a2⟩ := (HA.out.below hbel).2 k _ g0
      obtain ⟨b0, b1, b2⟩ := (HB.out.below hbel).2 k _ g0
      obtain ⟨⟨ex, ek, eq⟩, he⟩ : ∃ e, l[k] = e := ⟨_, rfl⟩
      rw [he] at a0 a1 a2 b0 b1 b2
      have hone := eq_oneB ⟨ex, ek, eq⟩ wr.drew
      have i2 : (k : Int) < (l.length : Int) := by omega
      clear g0 he
      go_wp2
      go_region_with (go_at_call 170; refine hone.mono ?_; rintro e w1 ⟨rfl, hb1⟩)
      all_goals go_wp2
      all_goals go_roundw
      all_goals first | exact ⟨k + 1, by omega, by go_num, hbel.drew.trans (hb1.mono hbs)⟩ | (simp [intOf]; omega)
    · obtain rfl : k = l.length := by omega
      go_wp2
      go_ret
      exact ⟨rfl, hbel⟩

theorem SE.inn {w W : World} {a : Option Addr} {l : List Ex} (h : SE w w.heap.size a l) (hb : Below w.heap.size w W) : SE W W.heap.size a l := by
  rcases h with h | ⟨b, off, ha, hlt, hc⟩
  · exact .inl h
  · refine .inr ⟨b, off, ha, Nat.lt_of_lt_of_le hlt hb.size, fun i e he => ?_⟩
    obtain ⟨h1, h2⟩ := hc i e he
    exact ⟨(hb.cell (p := ⟨b, _, none⟩) hlt).trans h1, (hb.cell (p := ⟨b, _, none⟩) hlt).trans h2⟩
theorem SB.inn {w W : World} {a : Option Addr} {l : List Bi} (h : SB w w.heap.size a l) (hb : Below w.heap.size w W) : SB W W.heap.size a l := by
  rcases h with h | ⟨b, off, ha, hlt, hc⟩
  · exact .inl h
  · refine .inr ⟨b, off, ha, Nat.lt_of_lt_of_le hlt hb.size, fun i e he => ?_⟩
    obtain ⟨h1, h2, h3⟩ := hc i e he
    exact ⟨(hb.cell (p := ⟨b, _, none⟩) hlt).trans h1, (hb.cell (p := ⟨b, _, none⟩) hlt).trans h2, (hb.cell (p := ⟨b, _, none⟩) hlt).trans h3⟩

theorem eq_routes (es : List Ex) (bs : List Bi) (ge ge' gb gb' ce ce' cb cb' : Nat) (w : World) (hel : es.length ≤ 1048576) (hbl : bs.length ≤ 1048576) (h1 : RE w ge es) (h2 : RE w ge' es) (h3 : RB w gb bs) (h4 : RB w gb' bs) :
    Calls Tryz.prog 48 #[.agg #[.slice (some ⟨ge, 0, none⟩) es.length ce, .slice (some ⟨gb, 0, none⟩) bs.length cb], .agg #[.slice (some ⟨ge', 0, none⟩) es.length ce', .slice (some ⟨gb', 0, none⟩) bs.length cb']] w fun e w' => e = .returned (.bool true) ∧ Below w.heap.size w w' := by
  have hb : Below w.heap.size w ((w.alloc (.cells #[.slice (some ⟨ge, 0, none⟩) es.length ce, .slice (some ⟨gb, 0, none⟩) bs.length cb] 35)).alloc (.cells #[.slice (some ⟨ge', 0, none⟩) es.length ce', .slice (some ⟨gb', 0, none⟩) bs.length cb'] 35)) := ((Below.refl _ _).alloc (Nat.le_refl _) _).alloc (by simp) _
  have hA := (Below.heap_alloc (w.alloc (.cells #[.slice (some ⟨ge, 0, none⟩) es.length ce, .slice (some ⟨gb, 0, none⟩) bs.length cb] 35)) (.cells #[.slice (some ⟨ge', 0, none⟩) es.length ce', .slice (some ⟨gb', 0, none⟩) bs.length cb'] 35) w.heap.size (by simp)).trans (heap_alloc_new w _)
  have hB := heap_alloc_new (w.alloc (.cells #[.slice (some ⟨ge, 0, none⟩) es.length ce, .slice (some ⟨gb, 0, none⟩) bs.length cb] 35)) (.cells #[.slice (some ⟨ge', 0, none⟩) es.length ce', .slice (some ⟨gb', 0, none⟩) bs.length cb'] 35)
  rw [World.size_alloc] at hB
  obtain ⟨W, hW⟩ : ∃ W, (w.alloc (.cells #[.slice (some ⟨ge, 0, none⟩) es.length ce, .slice (some ⟨gb, 0, none⟩) bs.length cb] 35)).alloc (.cells #[.slice (some ⟨ge', 0, none⟩) es.length ce', .slice (some ⟨gb', 0, none⟩) bs.length cb'] 35) = W := ⟨_, rfl⟩
  rw [hW] at hb hA hB
  have he := eq_allE es ge ge' ce ce' W hel (h1.below hb) (h2.below hb)
  have HB3 : Hid (RB W gb bs) := h3.below hb
  have HB4 : Hid (RB W gb' bs) := h4.below hb
  have x0 : W.cell? ⟨w.heap.size, 0, none⟩ = some (.slice (some ⟨ge, 0, none⟩) es.length ce) := by simp [World.cell?, hA]
  have y0 : W.cell? ⟨w.heap.size + 1, 0, none⟩ = some (.slice (some ⟨ge', 0, none⟩) es.length ce') := by simp [World.cell?, hB]
  have HA : Hid (W.heap[w.heap.size]? = some (.cells #[.slice (some ⟨ge, 0, none⟩) es.length ce, .slice (some ⟨gb, 0, none⟩) bs.length cb] 35 (0, 0))) := hA
  have HBB : Hid (W.heap[w.heap.size + 1]? = some (.cells #[.slice (some ⟨ge', 0, none⟩) es.length ce', .slice (some ⟨gb', 0, none⟩) bs.length cb'] 35 (0, 0))) := hB
  have la := (Array.getElem?_eq_some_iff.1 hA).1
  have lb := (Array.getElem?_eq_some_iff.1 hB).1
  clear h1 h2 h3 h4 hA hB
  go_enter Tryz.func48, Tryz.ntmps48
  go_wp2_with (go_at_call 110; fail)
  refine he.mono ?_
  rintro e w1 ⟨rfl, hb1⟩
  have x1 : w1.cell? ⟨w.heap.size, 1, none⟩ = some (.slice (some ⟨gb, 0, none⟩) bs.length cb) := by
    have := (hb1.block w.heap.size la).trans HA.out
    simp [World.cell?, this]
  have y1 : w1.cell? ⟨w.heap.size + 1, 1, none⟩ = some (.slice (some ⟨gb', 0, none⟩) bs.length cb') := by
    have := (hb1.block (w.heap.size + 1) lb).trans HBB.out
    simp [World.cell?, this]
  have hq := eq_allB bs gb gb' cb cb' w1 hbl (HB3.out.below hb1) (HB4.out.below hb1)
  clear he x0 y0 hW
  go_wp2_with (go_at_call 111; refine hq.mono ?_; rintro e w2 ⟨rfl, hb2⟩)
  go_ret
  exact ⟨rfl, hb.trans ((hb1.trans (hb2.mono hb1.size)).mono hb.size)⟩

theorem sz_routes (es : List Ex) (bs : List Bi) (ea ba : Option Addr) (ec bc : Nat) (w : World) (hel : es.length ≤ maxLen) (hbl : bs.length ≤ maxLen) (hes : ∀ e ∈ es, e.n.size ≤ maxLen) (hbs : ∀ e ∈ bs, e.x.size ≤ maxLen ∧ e.k.size ≤ maxLen ∧ e.q.size ≤ maxLen) (hE : SE w w.heap.size ea es) (hB : SB w w.heap.size ba bs) :
    Calls Tryz.prog 30 #[.agg #[.slice ea es.length ec, .slice ba bs.length bc], .int .i64 1048576] w fun e w' => ∃ r : Int, e = .returned (.int .i64 r) ∧ (0 ≤ r → es.length + bulkE es + bs.length + bulkB bs ≤ 1048576) ∧ Below w.heap.size w w' := by
  have hb : Below w.heap.size w (w.alloc (.cells #[.slice ea es.length ec, .slice ba bs.length bc] 25)) := (Below.refl _ _).alloc (Nat.le_refl _) _
  have hA := heap_alloc_new w (.cells #[.slice ea es.length ec, .slice ba bs.length bc] 25)
  obtain ⟨W, hW⟩ : ∃ W, w.alloc (.cells #[.slice ea es.length ec, .slice ba bs.length bc] 25) = W := ⟨_, rfl⟩
  rw [hW] at hb hA
  have he := sz_allE es ea ec 1048576 W hel hes (by omega) (by omega) (SE.inn hE hb)
  have HB3 : Hid (SB W W.heap.size ba bs) := SB.inn hB hb
  have x0 : W.cell? ⟨w.heap.size, 0, none⟩ = some (.slice ea es.length ec) := by simp [World.cell?, hA]
  have HA : Hid (W.heap[w.heap.size]? = some (.cells #[.slice ea es.length ec, .slice ba bs.length bc] 25 (0, 0))) := hA
  have la := (Array.getElem?_eq_some_iff.1 hA).1
  have HBS : Hid (∀ e ∈ bs, e.x.size ≤ maxLen ∧ e.k.size ≤ maxLen ∧ e.q.size ≤ maxLen) := hbs
  clear hE hB hA hes hbs
  go_enter Tryz.func30, Tryz.ntmps30
  go_wp2_with (go_at_call 75; fail)
  refine he.mono ?_
  rintro e w1 ⟨r, rfl, hr, hr0, hr1, hb1⟩
  clear hW x0
  by_cases hneg : r < 0
  · go_wp2
    go_ret
    exact ⟨-1, rfl, by omega, hb.trans (hb1.mono hb.size)⟩
  · have x1 : w1.cell? ⟨w.heap.size, 1, none⟩ = some (.slice ba bs.length bc) := by
      have := (hb1.block w.heap.size la).trans HA.out
      simp [World.cell?, this]
    have hq := sz_allB bs ba bc r w1 hbl HBS.out (by omega) (by omega) (SB.inn HB3.out hb1)
    have HR : Hid (r = 1048576 - es.length - bulkE es) := hr (by omega)
    clear he hr
    go_wp2_with (go_at_call 76; fail)
    refine hq.mono ?_
    rintro e w2 ⟨r2, rfl, hr2, hr20, hr21, hb2⟩
    have hfin : Below w.heap.size w w2 := hb.trans ((hb1.trans (hb2.mono hb1.size)).mono hb.size)
    have HR2 : Hid (0 ≤ r2 → r2 = r - bs.length - bulkB bs) := hr2
    clear hq hr2
    by_cases hneg2 : r2 < 0
    · go_wp2
      go_ret
      exact ⟨-1, rfl, by omega, hfin⟩
    · go_wp2
      go_ret
      exact ⟨r2, rfl, fun h => by have h1 := HR2.out h; have h2 := HR.out; omega, hfin⟩

theorem RE.set {w : World} {g : Nat} {l : List Ex} (h : RE w g l) {p : Addr} (hne : g ≠ p.block) (v : Value) : RE (w.setCell p v) g l := by
  have hblk : (w.setCell p v).heap[g]? = w.heap[g]? := Below.heap_setCell w p v g hne
  refine ⟨by simpa using h.1, fun i e he => ?_⟩
  obtain ⟨h1, h2⟩ := h.2 i e he
  exact ⟨(World.cell?_of_block (a := ⟨g, _, none⟩) hblk).trans h1, (World.cell?_of_block (a := ⟨g, _, none⟩) hblk).trans h2⟩
theorem RB.set {w : World} {g : Nat} {l : List Bi} (h : RB w g l) {p : Addr} (hne : g ≠ p.block) (v : Value) : RB (w.setCell p v) g l := by
  have hblk : (w.setCell p v).heap[g]? = w.heap[g]? := Below.heap_setCell w p v g hne
  refine ⟨by simpa using h.1, fun i e he => ?_⟩
  obtain ⟨h1, h2, h3⟩ := h.2 i e he
  exact ⟨(World.cell?_of_block (a := ⟨g, _, none⟩) hblk).trans h1, (World.cell?_of_block (a := ⟨g, _, none⟩) hblk).trans h2, (World.cell?_of_block (a := ⟨g, _, none⟩) hblk).trans h3⟩

set_option maxRecDepth 100000 in
set_option maxHeartbeats 1000000 in
theorem to_routes (es : List Ex) (bs : List Bi) (ea ba : Option Addr) (ec bc : Nat) (w : World) (hel : es.length ≤ 1048576) (hbl : bs.length ≤ 1048576) (hE : SE w w.heap.size ea es) (hB : SB w w.heap.size ba bs) :
    Calls Tryz.prog 37 #[.agg #[.slice ea es.length ec, .slice ba bs.length bc]] w fun e w' => ∃ g h, e = .returned (.agg #[.slice (some ⟨g, 0, none⟩) es.length es.length, .slice (some ⟨h, 0, none⟩) bs.length bs.length]) ∧ RE w' g es ∧ RB w' h bs ∧ Below w.heap.size w w' := by
  have hb : Below w.heap.size w (((w.alloc (.cells #[.slice ea es.length ec, .slice ba bs.length bc] 25)).alloc (.cells #[.slice none 0 0, .slice none 0 0] 35)).alloc (.cells #[.slice none 0 0, .slice none 0 0] 35)) := (((Below.refl _ _).alloc (Nat.le_refl _) _).alloc (by simp) _).alloc (by simp; omega) _
  have hA : (((w.alloc (.cells #[.slice ea es.length ec, .slice ba bs.length bc] 25)).alloc (.cells #[.slice none 0 0, .slice none 0 0] 35)).alloc (.cells #[.slice none 0 0, .slice none 0 0] 35)).heap[w.heap.size]? = some (.cells #[.slice ea es.length ec, .slice ba bs.length bc] 25 (0, 0)) := by
    rw [Below.heap_alloc _ _ _ (by simp; omega), Below.heap_alloc _ _ _ (by simp)]
    exact heap_alloc_new w _
  have hR : (((w.alloc (.cells #[.slice ea es.length ec, .slice ba bs.length bc] 25)).alloc (.cells #[.slice none 0 0, .slice none 0 0] 35)).alloc (.cells #[.slice none 0 0, .slice none 0 0] 35)).heap[w.heap.size + 1]? = some (.cells #[.slice none 0 0, .slice none 0 0] 35 (0, 0)) := by
    rw [Below.heap_alloc _ _ _ (by simp)]
    have := heap_alloc_new (w.alloc (.cells #[.slice ea es.length ec, .slice ba bs.length bc] 25)) (.cells #[.slice none 0 0, .slice none 0 0] 35)
    rwa [World.size_alloc] at this
  have hO : (((w.alloc (.cells #[.slice ea es.length ec, .slice ba bs.length bc] 25)).alloc (.cells #[.slice none 0 0, .slice none 0 0] 35)).alloc (.cells #[.slice none 0 0, .slice none 0 0] 35)).heap[w.heap.size + 1 + 1]? = some (.cells #[.slice none 0 0, .slice none 0 0] 35 (0, 0)) := by
    have := heap_alloc_new ((w.alloc (.cells #[.slice ea es.length ec, .slice ba bs.length bc] 25)).alloc (.cells #[.slice none 0 0, .slice none 0 0] 35)) (.cells #[.slice none 0 0, .slice none 0 0] 35)
    rwa [World.size_alloc, World.size_alloc] at this
  have hS : (((w.alloc (.cells #[.slice ea es.length ec, .slice ba bs.length bc] 25)).alloc (.cells #[.slice none 0 0, .slice none 0 0] 35)).alloc (.cells #[.slice none 0 0, .slice none 0 0] 35)).heap.size = w.heap.size + 3 := by simp
  obtain ⟨W, hW⟩ : ∃ W, ((w.alloc (.cells #[.slice ea es.length ec, .slice ba bs.length bc] 25)).alloc (.cells #[.slice none 0 0, .slice none 0 0] 35)).alloc (.cells #[.slice none 0 0, .slice none 0 0] 35) = W := ⟨_, rfl⟩
  rw [hW] at hb hA hR hO hS
  have he := to_allE es ea ec W hel (SE.inn hE hb)
  have hS3 : w.heap.size + 3 ≤ W.heap.size := by omega
  have HSB : Hid (SB w w.heap.size ba bs) := hB
  have x0 : W.cell? ⟨w.heap.size, 0, none⟩ = some (.slice ea es.length ec) := by simp [World.cell?, hA]
  have HA : Hid (W.heap[w.heap.size]? = some (.cells #[.slice ea es.length ec, .slice ba bs.length bc] 25 (0, 0))) := hA
  have HR : Hid (W.heap[w.heap.size + 1]? = some (.cells #[.slice none 0 0, .slice none 0 0] 35 (0, 0))) := hR
  have HO : Hid (W.heap[w.heap.size + 1 + 1]? = some (.cells #[.slice none 0 0, .slice none 0 0] 35 (0, 0))) := hO
  clear hE hB hA hR hO hS
  go_enter Tryz.func37, Tryz.ntmps37
  go_wp2_with (go_at_call 86; fail)
  clear hW
  refine he.mono ?_
  rintro e w1 ⟨rfl, hre, hb1⟩
  have hs1 := hb1.size
  have o1 := (hb1.block (w.heap.size + 1 + 1) (by omega)).trans HO.out
  have o0c : w1.cell? ⟨w.heap.size + 1 + 1, 0, none⟩ = some (.slice none 0 0) := by simp [World.cell?, o1]
  have o0f : w1.frozen? ⟨w.heap.size + 1 + 1, 0, none⟩ = false := by simp [World.frozen?, o1]
  -- the row is stored
  have o2 := heap_setCell_same w1 (w.heap.size + 1 + 1) 0 _ _ (.slice (some ⟨W.heap.size, 0, none⟩) es.length es.length) o1
  have a2 := (Below.heap_setCell w1 ⟨w.heap.size + 1 + 1, 0, none⟩ (.slice (some ⟨W.heap.size, 0, none⟩) es.length es.length) w.heap.size (by show w.heap.size ≠ w.heap.size + 1 + 1; omega)).trans ((hb1.block w.heap.size (by omega)).trans HA.out)
  have r2 := (Below.heap_setCell w1 ⟨w.heap.size + 1 + 1, 0, none⟩ (.slice (some ⟨W.heap.size, 0, none⟩) es.length es.length) (w.heap.size + 1) (by show w.heap.size + 1 ≠ w.heap.size + 1 + 1; omega)).trans ((hb1.block (w.heap.size + 1) (by omega)).trans HR.out)
  have hbw2 : Below w.heap.size w (w1.setCell ⟨w.heap.size + 1 + 1, 0, none⟩ (.slice (some ⟨W.heap.size, 0, none⟩) es.length es.length)) := (hb.trans (hb1.mono (by omega))).setCell (by show w.heap.size ≤ w.heap.size + 1 + 1; omega) _
  have re2 : RE (w1.setCell ⟨w.heap.size + 1 + 1, 0, none⟩ (.slice (some ⟨W.heap.size, 0, none⟩) es.length es.length)) W.heap.size es := RE.set hre (by show W.heap.size ≠ w.heap.size + 1 + 1; omega) _
  have hsz2 : (w1.setCell ⟨w.heap.size + 1 + 1, 0, none⟩ (.slice (some ⟨W.heap.size, 0, none⟩) es.length es.length)).heap.size = w1.heap.size := by simp
  have sb2 := SB.inn HSB.out hbw2
  have hq := to_allB bs ba bc _ hbl sb2
  obtain ⟨W2, hW2⟩ : ∃ W2, w1.setCell ⟨w.heap.size + 1 + 1, 0, none⟩ (.slice (some ⟨W.heap.size, 0, none⟩) es.length es.length) = W2 := ⟨_, rfl⟩
  rw [hW2] at o2 a2 r2 hbw2 re2 hsz2 hq
  simp at o2
  have a1c : W2.cell? ⟨w.heap.size, 1, none⟩ = some (.slice ba bs.length bc) := by simp [World.cell?, a2]
  have HO2 : Hid (W2.heap[w.heap.size + 1 + 1]? = some (.cells #[.slice (some ⟨W.heap.size, 0, none⟩) es.length es.length, .slice none 0 0] 35 (0, 0))) := o2
  have HR2 : Hid (W2.heap[w.heap.size + 1]? = some (.cells #[.slice none 0 0, .slice none 0 0] 35 (0, 0))) := r2
  have HRE : Hid (RE W2 W.heap.size es) := re2
  have hl2 : w.heap.size + 3 ≤ W2.heap.size := by omega
  clear he x0 hre o1 o2 a2 r2 re2 sb2
  go_wp2_with (go_at_call 87; fail)
  clear hW2
  refine hq.mono ?_
  rintro e w3 ⟨rfl, hrb, hb3⟩
  have hs3 := hb3.size
  have u := (hb3.block (w.heap.size + 1 + 1) (by omega)).trans HO2.out
  have v := (hb3.block (w.heap.size + 1) (by omega)).trans HR2.out
  have u0 : w3.cell? ⟨w.heap.size + 1 + 1, 0, none⟩ = some (.slice (some ⟨W.heap.size, 0, none⟩) es.length es.length) := by simp [World.cell?, u]
  have u1 : w3.cell? ⟨w.heap.size + 1 + 1, 1, none⟩ = some (.slice none 0 0) := by simp [World.cell?, u]
  have uf : w3.frozen? ⟨w.heap.size + 1 + 1, 1, none⟩ = false := by simp [World.frozen?, u]
  have v0 : w3.cell? ⟨w.heap.size + 1, 0, none⟩ = some (.slice none 0 0) := by simp [World.cell?, v]
  have v1 : w3.cell? ⟨w.heap.size + 1, 1, none⟩ = some (.slice none 0 0) := by simp [World.cell?, v]
  have vf0 : w3.frozen? ⟨w.heap.size + 1, 0, none⟩ = false := by simp [World.frozen?, v]
  have vf1 : w3.frozen? ⟨w.heap.size + 1, 1, none⟩ = false := by simp [World.frozen?, v]
  have HRB : Hid (RB w3 W2.heap.size bs) := hrb
  have HRE3 : Hid (RE w3 W.heap.size es) := HRE.out.below hb3
  have hbw3 : Below w.heap.size w w3 := hbw2.trans (hb3.mono (by omega))
  have q1 : W.heap.size ≤ w1.heap.size := hs1
  clear hq u v hrb a1c o0c o0f
  go_wp2
  refine bodyPost_ret (v := .agg #[.slice (some ⟨W.heap.size, 0, none⟩) es.length es.length, .slice (some ⟨W2.heap.size, 0, none⟩) bs.length bs.length]) (by simp [results, Tryz.results37, go_sem, v0, v1]) rfl ⟨W.heap.size, W2.heap.size, rfl, ?_, ?_, ?_⟩
  · exact RE.set (RE.set (RE.set HRE3.out (by show W.heap.size ≠ w.heap.size + 1 + 1; omega) _) (by show W.heap.size ≠ w.heap.size + 1; omega) _) (by show W.heap.size ≠ w.heap.size + 1; omega) _
  · exact RB.set (RB.set (RB.set HRB.out (by show W2.heap.size ≠ w.heap.size + 1 + 1; omega) _) (by show W2.heap.size ≠ w.heap.size + 1; omega) _) (by show W2.heap.size ≠ w.heap.size + 1; omega) _
  · exact ((hbw3.setCell (by show w.heap.size ≤ w.heap.size + 1 + 1; omega) _).setCell (by show w.heap.size ≤ w.heap.size + 1; omega) _).setCell (by show w.heap.size ≤ w.heap.size + 1; omega) _
end Go.Proofs.YtpkljkahdclcgaaGreat.rl
