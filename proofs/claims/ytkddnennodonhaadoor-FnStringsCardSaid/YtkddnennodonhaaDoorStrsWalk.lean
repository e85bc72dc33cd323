/- FnStrings: the walk of the law: it returns true at every code, and turns nothing that was there. -/
import Derived.Test.YtkddnennodonhaaDoorStrsTop
import Derived.BigQuiet
import Derived.Deep.RegionWith
import Derived.Lib.ConvBytes
namespace Go.Proofs.YtkddnennodonhaaDoor.sw
open Go.ChangeShapes Go.WideShapes Go.ChangeAt Go.RowKit

theorem short_slice {u x : ByteArray} {i t : Int} (hx : gs.text u i = x) (ht : gs.behind u i = t) (h0 : 0 < t) (hu : u.size ≤ 20) :
    ∃ r, Hid (ps.out x = r) ∧ x.size ≤ 1048576 ∧ ∀ W : World, (Instr.slice 9 (.string u) (some (.int .i64 i)) (some (.int .i64 t)) none).run Tryd.prog W = .ok (.string r) W := by
  have hh : gs.here u i = true := by
    cases h : gs.here u i with
    | true => rfl
    | false => simp only [gs.behind, h, Bool.false_eq_true, if_false] at ht; omega
  obtain ⟨h1, h2, h3, h4, h5⟩ := sp.short_back hh
  rw [hx, ht] at h5
  rw [ht] at h2 h3 h4
  refine ⟨_, h5, ?_, fun W => ?_⟩
  · rw [← hx]
    simp only [gs.text, hh, if_true, ByteArray.size_extract]
    omega
  · rw [run_slice_string (P := Tryd.prog) W 9 u .i64 .i64 i t Tryd.underlying9 (by omega) (by omega) (by omega)]
theorem long_slice {u x : ByteArray} {i t : Int} (hx : gl.text u i = x) (ht : gl.behind u i = t) (h0 : 0 < t) (hu : u.size ≤ 20) :
    ∃ r, Hid (pl.out x = r) ∧ x.size ≤ 1048576 ∧ ∀ W : World, (Instr.slice 9 (.string u) (some (.int .i64 i)) (some (.int .i64 t)) none).run Tryd.prog W = .ok (.string r) W := by
  have hh : gl.here u i = true := by
    cases h : gl.here u i with
    | true => rfl
    | false => simp only [gl.behind, h, Bool.false_eq_true, if_false] at ht; omega
  obtain ⟨h1, h2, h3, h4, h5⟩ := sp.long_back hh
  rw [hx, ht] at h5
  rw [ht] at h2 h3 h4
  refine ⟨_, h5, ?_, fun W => ?_⟩
  · rw [← hx]
    simp only [gl.text, hh, if_true, ByteArray.size_extract]
    omega
  · rw [run_slice_string (P := Tryd.prog) W 9 u .i64 .i64 i t Tryd.underlying9 (by omega) (by omega) (by omega)]
theorem not_empty {s : ByteArray} (h : 1 ≤ s.size) : s.toList.isEmpty = false ∧ (s.toList = []) = False := by
  have hl : s.toList.length = s.size := by rw [Lib.toList_data]; simp
  have hne : s.toList ≠ [] := fun e => by rw [e] at hl; simp at hl; omega
  exact ⟨by cases he : s.toList with | nil => exact absurd he hne | cons a b => rfl, by simpa using hne⟩
theorem empty_of {s : ByteArray} (h : s.size = 0) : s = ⟨#[]⟩ := by
  apply ByteArray.ext
  apply Array.toList_inj.1
  have h0 : s.data.toList.length = 0 := by simpa using h
  rw [List.length_eq_zero_iff.1 h0]

/-- the worlds in which nothing that was there is turned -/
structure Cls (w : World) where
  x : World
  h : st.T w x
instance (w : World) : Nonempty (Cls w) := ⟨⟨w, st.T.refl w⟩⟩
theorem region_in {P : Program} {id : Nat} {Q : Exit → Act → World → Prop} {a : Act} {W : World} {l : List Oper} (w : World) (hT : st.T w W) (hm : P.follows .mixedOrders = true) (hB : Region.lexB .any l.toArray = true)
    (h : wpQuiet P l.toArray (fun w' => ∃ n : Cls w, w' = n.x) (fun a' => ∀ w', (∃ n : Cls w, w' = n.x) → Q .normal a' w') l a) : (Code.region id l.toArray true).wp P Q a W :=
  wp_region_quiet (C := fun w' => ∃ n : Cls w, w' = n.x) hm hB ⟨⟨_, st.T.drew hT⟩, rfl⟩ h

/-- the bytes of a text, laid in new memory -/
theorem conv {w W : World} {d : ByteArray} (hT : st.T w W) : ∃ (W2 : World) (C2 g : Nat), (convert 9 22 (.string d)).run Tryd.prog W = .ok (.slice (some ⟨g, 0, none⟩) d.size C2) W2 ∧ w.heap.size ≤ g ∧
    (∀ j, j < d.size → W2.cell? ⟨g, j, none⟩ = some (.int .u8 (cs.bt d j : Nat))) ∧ (∀ j, j < d.size → W2.frozen? ⟨g, j, none⟩ = false) ∧ st.T w W2 ∧ g < W2.heap.size := by
  have h := Lib.run_convert_string_bytes (P := Tryd.prog) W 9 22 5 d Tryd.underlying9 Tryd.underlying22 Tryd.underlying5
  have hnew := Lib.bytesWorld_at_new W 5 d
  have hsz := Lib.bytesWorld_size W 5 d
  have hds : d.size ≤ (Lib.bytesCells W 5 d).size := by simp [Lib.bytesCells]
  refine ⟨_, _, _, h, hT.size, fun j hj => ?_, fun j hj => ?_, ?_, by omega⟩
  · rw [Lib.bytesWorld_cell W 5 d j hj]
    have h1 := Lib.data_getElem? d j hj
    rw [List.getD, h1, Option.getD_some, cs.bt_eq d j hj]
  · simp only [World.frozen?, hnew]
    simp
    omega
  · refine hT.next ⟨rfl, rfl, rfl, by omega, fun k hk => Lib.bytesWorld_at_old W 5 d k hk⟩

theorem flip {b n : Nat} (hb : b < 256) (hn : n < 256) : ∃ y : Nat, y < 256 ∧ b ≠ y ∧ bits BinOp.xor IntKind.u8 (b : Int) (IntKind.u8.wrap (IntKind.i64.wrap (1 + (n : Int).tmod 255))) = (y : Int) := by
  have e : IntKind.u8.wrap (IntKind.i64.wrap (1 + (n : Int).tmod 255)) = ((1 + n % 255 : Nat) : Int) := by
    rw [Int.tmod_eq_emod_of_nonneg (by omega), IntKind.wrap_i64, IntKind.wrap_u8]
    omega
  rw [e, u8_xor_nat b (1 + n % 255) hb (by omega)]
  refine ⟨b ^^^ (1 + n % 255), Nat.xor_lt_two_pow (n := 8) hb (by omega), fun h => ?_, rfl⟩
  have h2 : b ^^^ 0 = b ^^^ (1 + n % 255) := by rw [Nat.xor_zero]; exact h
  have := sp.xor_cancel_left h2
  omega
def nums (d : ByteArray) (j y : Nat) : List Int := (List.range d.size).map fun i => if i = j then (y : Int) else (cs.bt d i : Int)
theorem nums_at (d : ByteArray) (j y i : Nat) (h : i < d.size) : (nums d j y).getD i 0 = if i = j then (y : Int) else (cs.bt d i : Int) := by
  simp [nums, List.getD, h]
theorem nums_bt (d : ByteArray) (j y i : Nat) (hy : y < 256) : cs.bt (strOfNums (nums d j y)) i = if i < d.size then (if i = j then y else cs.bt d i) else 0 := by
  have hs : (strOfNums (nums d j y)).size = d.size := by rw [strOfNums_size]; simp [nums]
  by_cases hi : i < d.size
  · have hi' : i < (strOfNums (nums d j y)).size := by omega
    have h1 := Lib.data_getElem? (strOfNums (nums d j y)) i hi'
    rw [strOfNums_data, List.getElem?_map] at h1
    have hb := cs.bt_lt d i
    have h2 : (nums d j y)[i]? = some (if i = j then (y : Int) else (cs.bt d i : Int)) := by simp [nums, hi]
    rw [h2, Option.map_some] at h1
    rw [← cs.bt_eq _ i hi', ← Option.some.inj h1, if_pos hi]
    by_cases hij : i = j
    · simp [hij]
      omega
    · simp [hij]
      omega
  · simp [cs.bt, hs, hi]
/-- a byte changed in the bytes of a text: another sum -/
theorem changed {w W2 : World} {d : ByteArray} {g C2 j y : Nat} (hT2 : st.T w W2) (hg : w.heap.size ≤ g)
    (hcells : ∀ j, j < d.size → W2.cell? ⟨g, j, none⟩ = some (.int .u8 (cs.bt d j : Nat))) (hj : j < d.size) (hy : y < 256) (hne : cs.bt d j ≠ y) :
    ∃ (d2 : ByteArray) (m2 : Nat), (convert 22 9 (.slice (some ⟨g, 0, none⟩) d.size C2)).run Tryd.prog (W2.setCell ⟨g, j, none⟩ (.int .u8 (y : Int))).drew = .ok (.string d2) (W2.setCell ⟨g, j, none⟩ (.int .u8 (y : Int))).drew ∧
      d2.size = d.size ∧ Hid (cs.sum d2 = m2) ∧ m2 ≠ cs.sum d ∧ m2 < 4294967296 ∧ st.T w (W2.setCell ⟨g, j, none⟩ (.int .u8 (y : Int))).drew := by
  have hsz : (strOfNums (nums d j y)).size = d.size := by rw [strOfNums_size]; simp [nums]
  refine ⟨_, _, run_convert_bytes_arg (P := Tryd.prog) _ 22 5 Tryd.underlying22 Tryd.underlying5 g 0 d.size C2 (nums d j y) (by simp [nums]) (fun i hi => ?_) 9 Tryd.underlying9, hsz, rfl, ?_, sp.sum_lt _, ?_⟩
  · rw [nums_at d j y i hi, Nat.zero_add]
    by_cases hij : i = j
    · subst hij
      rw [if_pos rfl]
      exact World.cell?_setCell_same' _ _ _ (by rw [hcells i hi]; rfl)
    · rw [if_neg hij, ← hcells i hi]
      exact World.cell?_setCell_other _ _ _ _ (fun e => hij (by injection e with _ e2; exact e2.symm))
  · refine sp.sum_other hsz hj (fun i hi => ?_) ?_
    · rw [nums_bt d j y i hy]
      by_cases hl : i < d.size
      · rw [if_pos hl, if_neg hi]
      · simp [cs.bt, hl]
    · rw [nums_bt d j y j hy, if_pos hj, if_pos rfl]
      exact fun e => hne e.symm
  · exact (Below.setCell (p := ⟨g, j, none⟩) hT2 hg _).drew

set_option maxRecDepth 100000 in
set_option maxHeartbeats 60000000 in
theorem walk (a0 : Option Addr) (len0 cap0 : Nat) (w : World) (hcode : dw.Code w w.heap.size a0 len0) (htab : st.Tab w) :
    Calls Tryd.prog 4 #[.slice a0 len0 cap0] w fun e w' => e = .returned (.bool true) ∧ Below w.heap.size w w' := by
  by_cases hbig : (1048576 : Int) < len0
  · clear htab hcode
    go_enter Tryd.func4, Tryd.ntmps4
    go_wp2
    go_ret
    exact ⟨rfl, Below.refl _ _⟩
  have hlen : len0 ≤ 1048576 := by omega
  have HL : Hid (st.Tab w) := htab
  have HC : Hid (dw.Code w w.heap.size a0 len0) := hcode
  clear htab hcode
  go_enter Tryd.func4, Tryd.ntmps4
  go_wp2_with (first | (go_at_call 9; go_in) | (go_at_call 22; refine (st.cDrawPutShort hlen HC.out w (st.T.refl w)).mono ?_; rintro e w1 ⟨⟨a, ha, rfl⟩, hT1⟩) | (go_at_call 23; refine (st.cDrawPutLong hlen HC.out w1 hT1).mono ?_; rintro e w2 ⟨⟨b, hb, rfl⟩, hT2⟩))
  obtain ⟨s, hs⟩ : ∃ s, ps.out a = s := ⟨_, rfl⟩
  have HS : Hid (ps.out a = s) := hs
  obtain ⟨l, hl⟩ : ∃ l, pl.out b = l := ⟨_, rfl⟩
  have HLn : Hid (pl.out b = l) := hl
  clear hs hl
  go_wp2_with (first | (go_at_call 24; refine (st.cPSI (by omega) HS.out w2 hT2).mono ?_; rintro e w3 ⟨rfl, hT3⟩) | (go_at_call 25; refine (st.cPLI (by omega) HLn.out w3 hT3).mono ?_; rintro e w4 ⟨rfl, hT4⟩) | (go_at_call 26; refine (st.cDrawGetShort hlen HC.out w4 hT4).mono ?_; rintro e w5 ⟨⟨u, i, hu, hi1, hi2, rfl⟩, hT5⟩))
  obtain ⟨x, hx⟩ : ∃ x, gs.text u i = x := ⟨_, rfl⟩
  obtain ⟨t, ht⟩ : ∃ t, gs.behind u i = t := ⟨_, rfl⟩
  have HX : Hid (gs.text u i = x) := hx
  have HT : Hid (gs.behind u i = t) := ht
  clear hx ht
  go_wp2_with (first | (go_at_call 27; refine (st.cGSI (by omega) (by omega) (by omega) HX.out HT.out w5 hT5).mono ?_; rintro e w6 ⟨rfl, hT6⟩) | (go_at_call 28; refine (st.cGSS (by omega) (by omega) (by omega) HX.out HT.out w6 hT6).mono ?_; rintro e w7 ⟨rfl, hT7⟩) | (go_at_call 29; refine (st.cDrawGetLong hlen HC.out w7 hT7).mono ?_; rintro e w8 ⟨⟨v, k, hv, hk1, hk2, rfl⟩, hT8⟩))
  obtain ⟨p, hp⟩ : ∃ p, gl.text v k = p := ⟨_, rfl⟩
  obtain ⟨z, hz⟩ : ∃ z, gl.behind v k = z := ⟨_, rfl⟩
  have HP : Hid (gl.text v k = p) := hp
  have HZ : Hid (gl.behind v k = z) := hz
  clear hp hz
  go_wp2_with (first | (go_at_call 30; refine (st.cGLI (by omega) (by omega) (by omega) HP.out HZ.out w8 hT8).mono ?_; rintro e w9 ⟨rfl, hT9⟩) | (go_at_call 31; refine (st.cGLS (by omega) (by omega) (by omega) HP.out HZ.out w9 hT9).mono ?_; rintro e w10 ⟨rfl, hT10⟩) | (go_at_call 32; refine (st.cPSS (by omega) HS.out w10 hT10).mono ?_; rintro e w11 ⟨rfl, hT11⟩) | (go_at_call 33; refine (st.cPLS (by omega) HLn.out w11 hT11).mono ?_; rintro e w12 ⟨rfl, hT12⟩))
  clear hT1 hT2 hT3 hT4 hT5 hT6 hT7 hT8 hT9 hT10 hT11
  have c1 : (∃ r1, Hid (ps.out x = r1) ∧ x.size ≤ 1048576 ∧ 0 < t ∧ ∀ W : World, (Instr.slice 9 (.string u) (some (.int .i64 i)) (some (.int .i64 t)) none).run Tryd.prog W = .ok (.string r1) W) ∨ ¬ 0 < t := by
    by_cases ht0 : 0 < t
    · obtain ⟨r1, h1, h2, h3⟩ := short_slice HX.out HT.out ht0 hu
      exact .inl ⟨r1, h1, h2, ht0, h3⟩
    · exact .inr (by assumption)
  have c2 : (∃ r2, Hid (pl.out p = r2) ∧ p.size ≤ 1048576 ∧ 0 < z ∧ ∀ W : World, (Instr.slice 9 (.string v) (some (.int .i64 k)) (some (.int .i64 z)) none).run Tryd.prog W = .ok (.string r2) W) ∨ ¬ 0 < z := by
    by_cases hz0 : 0 < z
    · obtain ⟨r2, h1, h2, h3⟩ := long_slice HP.out HZ.out hz0 hv
      exact .inl ⟨r2, h1, h2, hz0, h3⟩
    · exact .inr (by assumption)
  have c3 : (s.toList.isEmpty = false ∧ (s.toList = []) = False ∧ s.size ≤ 256 ∧ Hid (gs.text (⟨#[97]⟩ ++ s ++ ⟨#[98]⟩) 1 = a ∧ gs.behind (⟨#[97]⟩ ++ s ++ ⟨#[98]⟩) 1 = 1 + (s.size : Int)) ∧ Hid ((⟨#[97]⟩ ++ s ++ ⟨#[98]⟩ : ByteArray).size ≤ 1048576)) ∨ s = ⟨#[]⟩ := by
    by_cases ha2 : a.size ≤ 255
    · left
      have h1 := (sp.short_out ha2).2.2
      have h2 := sp.read_short ha2 ⟨#[97]⟩ ⟨#[98]⟩ rfl
      rw [HS.out] at h1 h2
      obtain ⟨h3, h4⟩ := not_empty (s := s) (by omega)
      refine ⟨h3, h4, by omega, h2, ?_⟩
      unfold Hid
      rw [ByteArray.size_append, ByteArray.size_append]
      show 1 + s.size + 1 ≤ 1048576
      omega
    · right
      rw [← HS.out]
      unfold ps.out
      rw [if_neg ha2]
      rfl
  have c4 : l.size ≤ 24 ∧ Hid (gl.text (⟨#[97]⟩ ++ l ++ ⟨#[98]⟩) 1 = b ∧ gl.behind (⟨#[97]⟩ ++ l ++ ⟨#[98]⟩) 1 = 1 + (l.size : Int)) ∧ Hid ((⟨#[97]⟩ ++ l ++ ⟨#[98]⟩ : ByteArray).size ≤ 1048576) := by
    have h1 := (sp.long_out (a := b) (by omega)).2.2
    have h2 := sp.read_long (a := b) (by omega) ⟨#[97]⟩ ⟨#[98]⟩ rfl
    rw [HLn.out] at h1 h2
    refine ⟨by omega, h2, ?_⟩
    unfold Hid
    rw [ByteArray.size_append, ByteArray.size_append]
    show 1 + l.size + 1 ≤ 1048576
    omega
  obtain ⟨hl24, HGL, HUL⟩ := c4
  rcases c1 with ⟨r1, HR1, hx1, ht0, hsl1⟩ | ht0 <;> rcases c2 with ⟨r2, HR2, hp2, hz0, hsl2⟩ | hz0 <;> refine region_in w hT12 (by kernel_rfl) (by kernel_rfl) ?_
  all_goals repeat (go_big_quiet_step (first | (go_at_call 24; refine (st.cPSI hx1 HR1.out _ (Cls.h _)).mono ?_; rintro e wx ⟨rfl, hTx⟩; exact ⟨rfl, ⟨wx, hTx⟩, rfl⟩) | (go_at_call 25; refine (st.cPLI hp2 HR2.out _ (Cls.h _)).mono ?_; rintro e wx ⟨rfl, hTx⟩; exact ⟨rfl, ⟨wx, hTx⟩, rfl⟩)))
  all_goals refine wpQuiet_nil ?_
  all_goals rintro _ ⟨N, rfl⟩
  all_goals have hN := N.h
  all_goals generalize N.x = wN at hN ⊢
  all_goals clear N
  all_goals clear hT12
  all_goals rcases c3 with ⟨hem, hls, hs6, HGS, HUS⟩ | rfl
  all_goals go_wp2_with (first | (go_at_call 27; refine (st.cGSI (w := w) (u := ⟨#[97]⟩ ++ s ++ ⟨#[98]⟩) (i := 1) (x := a) (t := 1 + (s.size : Int)) HUS.out (by omega) (by omega) HGS.out.1 HGS.out.2 wN hN).mono ?_; rintro e wA ⟨rfl, hA⟩) | (go_at_call 30; refine (st.cGLI (w := w) (u := ⟨#[97]⟩ ++ l ++ ⟨#[98]⟩) (i := 1) (x := b) (t := 1 + (l.size : Int)) HUL.out (by omega) (by omega) HGL.out.1 HGL.out.2 _ (by assumption)).mono ?_; rintro e wB ⟨rfl, hB⟩) | (go_at_call 34; refine (st.cDrawCheckSum hlen HC.out wB hB).mono ?_; rintro e wC ⟨⟨d, hd, rfl⟩, hC⟩))
  all_goals obtain ⟨m, hm⟩ : ∃ m, cs.sum d = m := ⟨_, rfl⟩
  all_goals have HM : Hid (cs.sum d = m) := hm
  all_goals have hm32 : m < 4294967296 := by rw [← hm]; exact sp.sum_lt d
  all_goals clear hm
  all_goals refine (st.cSumI HL.out (by omega) HM.out wC hC).mono ?_
  all_goals rintro e _ ⟨rfl, rfl⟩
  all_goals by_cases hd0 : d.size = 0
  all_goals first
    | (obtain rfl := empty_of hd0
       obtain rfl : m = 0 := by rw [← HM.out]; rfl
       go_wp2_with (first | (go_at_call 36; refine (st.cSumS (by omega) HM.out _).mono ?_; rintro e _ ⟨rfl, rfl⟩) | (go_at_call 35; refine (st.cSumI HL.out (by omega) HM.out _ (by assumption)).mono ?_; rintro e _ ⟨rfl, rfl⟩))
       go_ret
       exact ⟨rfl, hC⟩)
    | skip
  all_goals obtain ⟨hdm, hdl⟩ := not_empty (s := d) (by omega)
  all_goals have hd1 : 1 ≤ d.size := by omega
  all_goals clear hd0
  all_goals obtain ⟨n2, hn2, hat2⟩ := st.law_at (cap := cap0) 2 hlen (by omega) HC.out
  all_goals obtain ⟨n3, hn3, hat3⟩ := st.law_at (cap := cap0) 3 hlen (by omega) HC.out
  all_goals obtain ⟨W2, C2, g, hcv, hgw, hcells, hfrz, hT2, hW2⟩ := conv (w := w) (d := d) hC
  all_goals obtain ⟨j, hjl, hj⟩ : ∃ j : Nat, j < d.size ∧ (n2 : Int) % (d.size : Int) = (j : Int) := ⟨n2 % d.size, Nat.mod_lt _ (by omega), by simp⟩
  all_goals go_wp2_with (first | (go_at_call 36; refine (st.cSumS (by omega) HM.out _).mono ?_; rintro e _ ⟨rfl, rfl⟩) | (go_at_call 37; refine (hat2 W2 hT2).mono ?_; rintro e _ ⟨rfl, rfl⟩))
  all_goals have hcj := hcells j hjl
  all_goals have hfj := hfrz j hjl
  all_goals obtain ⟨bj, hbj⟩ : ∃ bj, cs.bt d j = bj := ⟨_, rfl⟩
  all_goals have HBJ : Hid (cs.bt d j = bj) := hbj
  all_goals rw [hbj] at hcj
  all_goals have hbj8 : bj < 256 := by rw [← hbj]; exact cs.bt_lt d j
  all_goals have HCL : Hid (∀ j, j < d.size → W2.cell? ⟨g, j, none⟩ = some (.int .u8 (cs.bt d j : Nat))) := hcells
  all_goals clear hcells hfrz hbj hcv hat2
  all_goals obtain ⟨y, hy8, hyne, hY⟩ : ∃ y : Nat, y < 256 ∧ bj ≠ y ∧ bits BinOp.xor IntKind.u8 (bj : Int) (IntKind.u8.wrap (IntKind.i64.wrap (1 + (n3 : Int).tmod 255))) = (y : Int) := flip hbj8 hn3
  all_goals obtain ⟨d2, m2, hcv2, hd2, HM2, hmm, hm232, hT3⟩ := changed (C2 := C2) hT2 hgw HCL.out hjl hy8 (by rw [HBJ.out]; exact hyne)
  all_goals rw [HM.out] at hmm
  all_goals have hmm1 : ((m2 : Int) == (m : Int)) = false := by simp only [beq_eq_false_iff_ne]; omega
  all_goals have hmm2 : ((m2 : Int) = (m : Int)) = False := eq_false (by omega)
  all_goals go_region_with (go_at_call 37; refine (hat3 _ (by first | exact hT2 | exact hT2.drew)).mono ?_; rintro e _ ⟨rfl, rfl⟩)
  all_goals generalize (W2.setCell ⟨g, j, none⟩ (.int .u8 (y : Int))).drew = W3 at hcv2 hT3 ⊢
  all_goals have k1 : True := trivial
  all_goals go_wp2_with (first | (go_at_call 35; have _t := k1; refine (st.cSumI HL.out (by omega) HM2.out W3 hT3).mono ?_; rintro e _ ⟨rfl, rfl⟩; clear k1) | (go_at_call 35; refine (st.cSumI HL.out (by omega) HM.out W3 hT3).mono ?_; rintro e _ ⟨rfl, rfl⟩))
  all_goals go_ret
  all_goals refine ⟨?_, hT3⟩
  all_goals show Ending.returned (Value.bool ((m2 : Int) != (m : Int))) = Ending.returned (Value.bool true)
  all_goals rw [bne, hmm1]
  all_goals rfl
end Go.Proofs.YtkddnennodonhaaDoor.sw
