/- The specification's GetMethod: it answers as the plain function tells; it lays new memory alone. -/
import Derived.Test.YtljaogecddmfjaaDoorGetPlain
namespace Go.Proofs.YtljaogecddmfjaaDoor.gm
set_option linter.unusedVariables false
open Go.ChangeShapes Go.WideShapes Go.ChangeAt Go.RowKit Go.Proofs.YtljaogecddmfjaaDoor.ls Go.Proofs.YtljaogecddmfjaaDoor.me Go.Proofs.YtljaogecddmfjaaDoor.mp Go.Proofs.YtljaogecddmfjaaDoor.bx

theorem infoS : (Tryd.prog.info? 9).map (fun i => (i.zero, i.size, i.bytes)) = some (some (.string ByteArray.empty), 1, 16) := by kernel_rfl
def zeros : Array Value := #[.int .i64 0, .int .i64 0, .slice none 0 0, .slice none 0 0]

set_option maxRecDepth 100000 in
theorem spec_no (s : ByteArray) (w : World) (hs : s.size ≤ 1048576) (h : at0 s < 0 ∨ (fo.known (cls s) (idn s)).isSome = false) : Calls Tryd.prog 14 #[.string s] w (Post s w) := by
  have hok : ok s = false := by
    unfold ok
    rcases h with h | h
    · simp [h]
    · simp [h]
  have hf : ∀ W, Calls Tryd.prog 16 #[.int .i64 (gi.num s 0 2), .int .i64 (gi.num s 2 2)] W fun e w' => e = .returned (.tuple #[.string (fo.letters (cls s) (idn s)), .bool (fo.known (cls s) (idn s)).isSome]) ∧ w' = W := fun W => fo.spec_form (cls s) (idn s) W
  generalize (fo.known (cls s) (idn s)).isSome = k at h hf
  generalize fo.letters (cls s) (idn s) = fs at hf
  change gi.stop s 2 2 < 0 ∨ _ at h
  have HOK : Hid (ok s = false) := hok
  clear hok
  go_enter Tryd.func14, Tryd.ntmps14
  by_cases ha : gi.stop s 2 2 < 0
  · clear h
    go_wp2_with (first | (go_at_call 38; refine (gi.spec_get _ _ _ _ hs (by decide) (by decide)).mono ?_; rintro e _ ⟨rfl, rfl⟩) | (go_at_call 16; refine (hf _).mono ?_; rintro e _ ⟨rfl, rfl⟩))
    refine bodyPost_ret (v := .tuple #[.agg #[.int .i64 0, .int .i64 0, .slice none 0 0, .slice none 0 0], .bool false]) (by simp [results, Tryd.results14, go_sem]) rfl ?_
    exact post_no HOK.out ((Below.refl _ _).alloc (Nat.le_refl _) _)
  · obtain rfl : k = false := h.resolve_left ha
    clear h
    go_wp2_with (first | (go_at_call 38; refine (gi.spec_get _ _ _ _ hs (by decide) (by decide)).mono ?_; rintro e _ ⟨rfl, rfl⟩) | (go_at_call 16; refine (hf _).mono ?_; rintro e _ ⟨rfl, rfl⟩))
    refine bodyPost_ret (v := .tuple #[.agg #[.int .i64 0, .int .i64 0, .slice none 0 0, .slice none 0 0], .bool false]) (by simp [results, Tryd.results14, go_sem]) rfl ?_
    exact post_no HOK.out ((Below.refl _ _).alloc (Nat.le_refl _) _)

/-- what is so behind k letters: the method so far in block rb -/
structure At (w : World) (s : ByteArray) (T : TypeId) (x y : Value) (rb : Nat) (ps : List (Nat × Obj)) (F : List UInt8) (k : Nat) (a : Int) (ts : List ByteArray) (ns : List Int) (tv nv : Value) (wr : World) : Prop where
  box : Bx wr w.heap.size rb T x y tv nv ts ns ps
  run : rdL s (F.drop k) a ts ns = rdL s F (at0 s) [] []
  tl : ts.length ≤ k
  nl : ns.length ≤ k
  bel : Below w.heap.size w wr

section
variable {w W w2 wr : World} {s : ByteArray} {T : TypeId} {x y tv nv : Value} {rb k : Nat} {ps : List (Nat × Obj)} {F : List UInt8} {a : Int} {ts : List ByteArray} {ns : List Int}
theorem At.below (h : At w s T x y rb ps F k a ts ns tv nv wr) (hb : Below wr.heap.size wr W) : At w s T x y rb ps F k a ts ns tv nv W :=
  { h with box := h.box.below hb, bel := h.bel.trans (hb.mono h.bel.size) }
theorem At.text (h : At w s T x y rb ps F k a ts ns tv nv wr) (hk : k < F.length) (hc : F[k] = 115) (ha : 0 ≤ a) (hb : Below wr.heap.size wr W) {g cap : Nat} (hown : w2.ownsRow w.heap.size 9 1 (.slice (some ⟨g, 0, none⟩) (ts.length + 1) cap) (ts.length + 1) (ts.map Value.string ++ [.string (gs.text s a)])) (hg : W.grownBy w2 tv.ownBlock) (hat : tv.ownBlock = some g ∨ g = W.heap.size) :
    At w s T x y rb ps F (k + 1) (gs.behind s a) (ts ++ [gs.text s a]) ns (.slice (some ⟨g, 0, none⟩) (ts.length + 1) cap) nv (w2.setCell ⟨rb, 2, none⟩ (.slice (some ⟨g, 0, none⟩) (ts.length + 1) cap)) := by
  have h2 := h.box.below hb
  have hbW := h.bel.trans (hb.mono h.bel.size)
  have := h.nl
  have := h.tl
  exact { box := h2.text hown hg hat, run := by rw [← h.run, drop_cons hk, hc, rdL_text ha], tl := by simp; omega, nl := by omega, bel := low hbW hbW.size h2.ot hg h2.lo 2 _ }
theorem At.num (h : At w s T x y rb ps F k a ts ns tv nv wr) (hk : k < F.length) (hc : F[k] ≠ 115) (ha : 0 ≤ a) (hb : Below wr.heap.size wr W) {g cap : Nat} (hown : w2.ownsRow w.heap.size 3 1 (.slice (some ⟨g, 0, none⟩) (ns.length + 1) cap) (ns.length + 1) (ns.map (Value.int .i64) ++ [.int .i64 (gi.num s a ((F[k].toNat : Int) - 48))])) (hg : W.grownBy w2 nv.ownBlock) (hat : nv.ownBlock = some g ∨ g = W.heap.size) :
    At w s T x y rb ps F (k + 1) (gi.stop s a ((F[k].toNat : Int) - 48)) ts (ns ++ [gi.num s a ((F[k].toNat : Int) - 48)]) tv (.slice (some ⟨g, 0, none⟩) (ns.length + 1) cap) (w2.setCell ⟨rb, 3, none⟩ (.slice (some ⟨g, 0, none⟩) (ns.length + 1) cap)) := by
  have h2 := h.box.below hb
  have hbW := h.bel.trans (hb.mono h.bel.size)
  have := h.nl
  have := h.tl
  exact { box := h2.num hown hg hat, run := by rw [← h.run, drop_cons hk, rdL_num ha hc], tl := by omega, nl := by simp; omega, bel := low hbW hbW.size h2.on hg h2.lo 3 _ }
end

/-- the method that is there -/
theorem post_yes {s : ByteArray} {w wr w' : World} {T : TypeId} {x y : Value} {rb : Nat} {F : List UInt8} {k : Nat} {a : Int} {ts : List ByteArray} {ns : List Int} {ta na : Option Addr} {tc nc : Nat} {ps : List (Nat × Obj)}
    (h : At w s T x y rb ps F k a ts ns (.slice ta ts.length tc) (.slice na ns.length nc) wr) (hr : run s = (a, ts, ns)) (hok : ok s = true) (ht : w'.ownsRow w.heap.size 9 1 (.slice ta ts.length tc) ts.length (ts.map Value.string)) (hn : w'.ownsRow w.heap.size 3 1 (.slice na ns.length nc) ns.length (ns.map (Value.int .i64))) (hb : Below w.heap.size w w') :
    Post s w (.returned (.tuple #[.agg #[.int .i64 (cls s), .int .i64 (idn s), .slice ta ts.length tc, .slice na ns.length nc], .bool true])) w' := by
  unfold Post
  rw [hok, if_pos rfl, hr]
  exact ⟨ta, na, tc, nc, rfl, ht, hn, h.box.ap, hb⟩

set_option maxRecDepth 100000 in
set_option maxHeartbeats 1000000 in
theorem spec_yes (s : ByteArray) (w : World) (hs : s.size ≤ 1048576) (ha : 0 ≤ at0 s) (hk : (fo.known (cls s) (idn s)).isSome = true) : Calls Tryd.prog 14 #[.string s] w (Post s w) := by
  obtain ⟨i0, hi, hz0, hz1, hz2⟩ := info_parts infoS
  obtain ⟨j0, gi0, gz0, gz1, gz2⟩ := info_parts infoI
  have hf : ∀ W, Calls Tryd.prog 16 #[.int .i64 (gi.num s 0 2), .int .i64 (gi.num s 2 2)] W fun e w' => e = .returned (.tuple #[.string (fo.letters (cls s) (idn s)), .bool (fo.known (cls s) (idn s)).isSome]) ∧ w' = W := fun W => fo.spec_form (cls s) (idn s) W
  rw [hk] at hf
  have HOK : Hid (ok s = decide ((run s).1 = s.size)) := by
    unfold Hid ok
    have : ¬ at0 s < 0 := by omega
    simp [hk, this]
  have hF5 := F_length (cls s) (idn s)
  obtain ⟨fs, hfs⟩ : ∃ fs, fo.letters (cls s) (idn s) = fs := ⟨_, rfl⟩
  have HF : Hid (F (cls s) (idn s) = fs.data.toList) := by unfold Hid F; rw [hfs]
  have hfl : fs.size ≤ 5 := by rw [HF.out] at hF5; simpa using hF5
  rw [hfs] at hf
  have HR : Hid (run s = rdL s fs.data.toList (at0 s) [] []) := by unfold Hid run; rw [HF.out]
  change 0 ≤ gi.stop s 2 2 at ha
  have ha2 : gi.stop s 2 2 ≤ s.size := by have := stop_bound s 2 2; omega
  clear hk hF5 hfs HF
  go_enter Tryd.func14, Tryd.ntmps14
  go_wp2_with (first | (go_at_call 38; refine (gi.spec_get _ _ _ _ hs (by decide) (by decide)).mono ?_; rintro e _ ⟨rfl, rfl⟩) | (go_at_call 16; refine (hf _).mono ?_; rintro e _ ⟨rfl, rfl⟩))
  clear hf
  have HAT : Hid (At w s 27 (.int .i64 (gi.num s 0 2)) (.int .i64 (gi.num s 2 2)) (w.heap.size + 1) [(w.heap.size, .cells zeros 27 (0, 0))] fs.data.toList 0 (gi.stop s 2 2) [] [] (.slice none 0 0) (.slice none 0 0) ((w.alloc (.cells zeros 27)).alloc (.cells #[.int .i64 (gi.num s 0 2), .int .i64 (gi.num s 2 2), .slice none 0 0, .slice none 0 0] 27))) := by
    have e1 : (w.alloc (.cells zeros 27)).heap.size = w.heap.size + 1 := by simp
    have hn := heap_alloc_new (w.alloc (.cells zeros 27)) (.cells #[.int .i64 (gi.num s 0 2), .int .i64 (gi.num s 2 2), .slice none 0 0, .slice none 0 0] 27)
    rw [e1] at hn
    have ho := heap_alloc_old (w.alloc (.cells zeros 27)) (r := w.heap.size) (.cells #[.int .i64 (gi.num s 0 2), .int .i64 (gi.num s 2 2), .slice none 0 0, .slice none 0 0] 27) (by omega)
    rw [heap_alloc_new w] at ho
    exact { box := ⟨hn, World.ownsRow_nil _ _ _ _, World.ownsRow_nil _ _ _ _, by simp [Value.ownBlock], by simp [Value.ownBlock], by simp [Value.ownBlock], by omega, by
              intro q hq
              simp at hq
              subst hq
              exact ⟨ho, by simp, by simp [Value.ownBlock], by simp [Value.ownBlock]⟩⟩
            run := rfl
            tl := Nat.zero_le _
            nl := Nat.zero_le _
            bel := ((Below.refl _ _).alloc (Nat.le_refl _) _).alloc (by simp) _ }
  go_loopw [7, 11, 12, 13, 14, 15] (fun sa sk _ _ _ _ wr => ∃ (a : Int) (k : Nat) (ts : List ByteArray) (ns : List Int) (tv nv : Value), sa = .int .i64 a ∧ sk = .int .i64 k ∧ k ≤ fs.size ∧ (a = -1 ∨ 0 ≤ a ∧ a ≤ s.size) ∧ Hid (At w s 27 (.int .i64 (gi.num s 0 2)) (.int .i64 (gi.num s 2 2)) (w.heap.size + 1) [(w.heap.size, .cells zeros 27 (0, 0))] fs.data.toList k a ts ns tv nv wr)) (fun _ sk _ _ _ _ _ => fs.size - (intOf sk).toNat)
  case atStart => exact ⟨_, 0, [], [], _, _, rfl, rfl, by omega, by omega, HAT⟩
  case round =>
    obtain ⟨a, k, ts, ns, tv, nv, rfl, rfl, hk, hab, hat⟩ := hrel
    obtain ⟨ta, tc, htv⟩ := own_slice hat.out.box.ot
    obtain ⟨na, nc, hnv⟩ := own_slice hat.out.box.on
    subst htv hnv
    have hbx := hat.out.box
    have e0 : wr.cell? ⟨w.heap.size + 1, 0, none⟩ = some (.int .i64 (gi.num s 0 2)) := cell_of (o := 0) hbx.blk rfl
    have e1 : wr.cell? ⟨w.heap.size + 1, 1, none⟩ = some (.int .i64 (gi.num s 2 2)) := cell_of (o := 1) hbx.blk rfl
    have e2 : wr.cell? ⟨w.heap.size + 1, 2, none⟩ = some (.slice ta ts.length tc) := cell_of (o := 2) hbx.blk rfl
    have e3 : wr.cell? ⟨w.heap.size + 1, 3, none⟩ = some (.slice na ns.length nc) := cell_of (o := 3) hbx.blk rfl
    have hrl := hbx.lt
    have hres := (hbx.keep _ (List.mem_singleton.2 rfl)).1
    have hbel := hat.out.bel
    have htl := hat.out.tl
    have hnl := hat.out.nl
    clear hbx
    by_cases hgo : k < fs.size ∧ 0 ≤ a
    · obtain ⟨hkf, ha0⟩ := hgo
      have hkF : k < fs.data.toList.length := by simpa using hkf
      have hgk : fs.data.toList[k] = fs[k] := rfl
      have hBs := hbel.size
      clear hres e0 e1
      by_cases hsl : fs[k] = 115
      · have hbb : ((fs[k].toNat : Int) == 115) = true := by simp [hsl]
        have hget := gs.spec_getShort s a wr hs (by omega) (by omega)
        have hbd := behind_bound s a
        go_wp2_with (first | (go_at_call 39; refine hget.mono ?_; rintro e w0 ⟨rfl, hb0⟩; have hat0 := hat.out.below hb0; have e2' := cell_of (o := 2) hat0.box.blk rfl; have HAT0 : Hid _ := hat0; have hr0 := hat0.box.lt; have hB0 := hat0.bel.size; clear hat0) | (at_builtin; refine wpList_append_lies _ rfl _ _ 24 rfl w.heap.size 9 i0 (.string ByteArray.empty) 1 16 Tryd.underlying24 hi hz0 hz1 hz2 rfl (by decide) _ _ _ rfl (HAT0.out.box.ot.alloc _) ⟨w0.heap.size, 0, none⟩ 1 1 [.string (gs.text s a)] rfl rfl ?c1 ?c2 (by decide) ?c3 ?c4 ?c5 (w0.heap.size + 1) (by simp) ?_))
        case c1 => exact cell_one_new _ _ _
        case c2 => intro u hu; simp at hu; subst hu; rfl
        case c3 => unfold maxLen; omega
        case c4 => omega
        case c5 => simp; omega
        intro g cap w1 hown hgrow hga hlt
        have h2 := HAT0.out.box.below ((Below.refl _ _).alloc (Nat.le_refl _) (.cells #[.string (gs.text s a)] 9))
        have b1 := (hgrow.block _ h2.lt (Ne.symm h2.nt)).trans h2.blk
        have m2 : w1.cell? ⟨w.heap.size + 1, 2, none⟩ = some (.slice ta ts.length tc) := cell_of (o := 2) b1 rfl
        have f2 : w1.frozen? ⟨w.heap.size + 1, 2, none⟩ = false := free_of (o := 2) b1
        have HN := HAT0.out.text hkF (hgk.trans hsl) ha0 ((Below.refl _ _).alloc (Nat.le_refl _) _) hown hgrow (by simpa using hga)
        clear h2 b1 hown hgrow hga e2 e3
        go_wp2
        go_roundw
        case rel => exact ⟨_, k + 1, _, _, _, _, rfl, by go_num, by omega, hbd, HN⟩
        case measure => simp [intOf]; omega
      · have hbb : ((fs[k].toNat : Int) == 115) = false := by
          rw [beq_eq_false_iff_ne]
          intro e
          apply hsl
          have e2 : fs[k].toNat = 115 := by omega
          exact UInt8.toNat_inj.1 e2
        have hb255 : fs[k].toNat ≤ 255 := by have := fs[k].toNat_lt; omega
        have hget := gi.spec_get s a ((fs[k].toNat : Int) - 48) wr hs (by omega) (by omega)
        have hbd := stop_bound s a ((fs[k].toNat : Int) - 48)
        go_wp2_with (first | (go_at_call 38; refine hget.mono ?_; rintro e w0 ⟨rfl, hw0⟩; obtain rfl := hw0.symm; clear hget) | (at_builtin; refine wpList_append_lies _ rfl _ _ 25 rfl w.heap.size 3 j0 (.int .i64 0) 1 8 Tryd.underlying25 gi0 gz0 gz1 gz2 rfl (by decide) _ _ _ rfl (hat.out.box.on.alloc _) ⟨wr.heap.size, 0, none⟩ 1 1 [.int .i64 (gi.num s a ((fs[k].toNat : Int) - 48))] rfl rfl ?c1 ?c2 (by decide) ?c3 ?c4 ?c5 (wr.heap.size + 1) (by simp) ?_))
        case c1 => exact cell_one_new _ _ _
        case c2 => intro u hu; simp at hu; subst hu; rfl
        case c3 => unfold maxLen; omega
        case c4 => omega
        case c5 => simp; omega
        intro g cap w1 hown hgrow hga hlt
        have h2 := hat.out.box.below ((Below.refl _ _).alloc (Nat.le_refl _) (.cells #[.int .i64 (gi.num s a ((fs[k].toNat : Int) - 48))] 3))
        have b1 := (hgrow.block _ h2.lt (Ne.symm h2.nn)).trans h2.blk
        have m3 : w1.cell? ⟨w.heap.size + 1, 3, none⟩ = some (.slice na ns.length nc) := cell_of (o := 3) b1 rfl
        have f3 : w1.frozen? ⟨w.heap.size + 1, 3, none⟩ = false := free_of (o := 3) b1
        have HN := hat.out.num hkF (by rw [hgk]; exact hsl) ha0 ((Below.refl _ _).alloc (Nat.le_refl _) _) hown hgrow (by simpa using hga)
        rw [hgk] at HN
        clear h2 b1 hown hgrow hga e2 e3
        go_wp2
        go_roundw
        case rel => exact ⟨_, k + 1, _, _, _, _, rfl, by go_num, by omega, hbd, HN⟩
        case measure => simp [intOf]; omega
    · have HE : Hid (run s = (a, ts, ns)) := by
        unfold Hid
        rw [HR.out, ← hat.out.run]
        by_cases hneg : a < 0
        · exact rdL_neg hneg
        · have : k = fs.size := by omega
          rw [this, List.drop_of_length_le (by simp)]
          rfl
      have hout : decide ((k : Int) < fs.size) = false ∨ decide (0 ≤ a) = false := by
        by_cases hneg : a < 0
        · right; simp; omega
        · left; simp; omega
      have hres' := hres
      have g0 := free_of (o := 0) hres
      have g1 := free_of (o := 1) hres
      have g2 := free_of (o := 2) hres
      have g3 := free_of (o := 3) hres
      have r0 : wr.cell? ⟨w.heap.size, 0, none⟩ = some (.int .i64 0) := cell_of (o := 0) hres rfl
      have r1 : wr.cell? ⟨w.heap.size, 1, none⟩ = some (.int .i64 0) := cell_of (o := 1) hres rfl
      have r2 : wr.cell? ⟨w.heap.size, 2, none⟩ = some (.slice none 0 0) := cell_of (o := 2) hres rfl
      have r3 : wr.cell? ⟨w.heap.size, 3, none⟩ = some (.slice none 0 0) := cell_of (o := 3) hres rfl
      clear hres hres' HR HAT
      by_cases haz : a = s.size
      · have HOT : Hid (ok s = true) := by unfold Hid; rw [HOK.out, HE.out]; simp [haz]
        subst haz
        have hkk : k = fs.size := by omega
        subst hkk
        clear hout hgo hab
        go_wp2
        refine bodyPost_ret (v := .tuple #[.agg #[.int .i64 (gi.num s 0 2), .int .i64 (gi.num s 2 2), .slice ta ts.length tc, .slice na ns.length nc], .bool true]) (by simp [results, Tryd.results14, go_sem, r0, r1, r2, r3]) rfl ?_
        have k1 := (hat.out.box.keep _ (List.mem_singleton.2 rfl)).2.2
        exact post_yes hat.out HE.out HOT.out (own_set (own_set (own_set (own_set hat.out.box.ot k1.1 _) k1.1 _) k1.1 _) k1.1 _) (own_set (own_set (own_set (own_set hat.out.box.on k1.2 _) k1.2 _) k1.2 _) k1.2 _) ((((hbel.setCell (by simp) _).setCell (by simp) _).setCell (by simp) _).setCell (by simp) _)
      · have HOF : Hid (ok s = false) := by unfold Hid; rw [HOK.out, HE.out]; simp [haz]
        by_cases hneg : a < 0
        · have hax : (a == (s.size : Int)) = false := by simpa using haz
          clear hout hgo hab
          by_cases hkk : k < fs.size
          · go_wp2
            refine bodyPost_ret (v := .tuple #[.agg #[.int .i64 0, .int .i64 0, .slice none 0 0, .slice none 0 0], .bool false]) (by simp [results, Tryd.results14, go_sem, r0, r1, r2, r3]) rfl ?_
            exact post_no HOF.out ((((hbel.setCell (by simp) _).setCell (by simp) _).setCell (by simp) _).setCell (by simp) _)
          · go_wp2
            refine bodyPost_ret (v := .tuple #[.agg #[.int .i64 0, .int .i64 0, .slice none 0 0, .slice none 0 0], .bool false]) (by simp [results, Tryd.results14, go_sem, r0, r1, r2, r3]) rfl ?_
            exact post_no HOF.out ((((hbel.setCell (by simp) _).setCell (by simp) _).setCell (by simp) _).setCell (by simp) _)
        · have hkk : k = fs.size := by omega
          subst hkk
          have hax : (a == (s.size : Int)) = false := by simpa using haz
          clear hout hgo hab
          go_wp2
          refine bodyPost_ret (v := .tuple #[.agg #[.int .i64 0, .int .i64 0, .slice none 0 0, .slice none 0 0], .bool false]) (by simp [results, Tryd.results14, go_sem, r0, r1, r2, r3]) rfl ?_
          exact post_no HOF.out ((((hbel.setCell (by simp) _).setCell (by simp) _).setCell (by simp) _).setCell (by simp) _)

theorem spec_get (s : ByteArray) (w : World) (hs : s.size ≤ 1048576) : Calls Tryd.prog 14 #[.string s] w (Post s w) := by
  by_cases ha : at0 s < 0
  · exact spec_no s w hs (.inl ha)
  · cases hk : (fo.known (cls s) (idn s)).isSome with
    | false => exact spec_no s w hs (.inr hk)
    | true => exact spec_yes s w hs (by omega) hk
end Go.Proofs.YtljaogecddmfjaaDoor.gm
