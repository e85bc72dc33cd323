/- The program's GetMethod: it answers as the plain function tells; it lays new memory alone. -/
import Derived.Test.YtipjhlfajefefaaDoorGetPlain
import Derived.Test.YtipjhlfajefefaaDoorBoxRows
import Derived.Test.YtipjhlfajefefaaDoorGetShortWalks
import Derived.Test.YtipjhlfajefefaaDoorQuietIn
import Derived.Test.YtipjhlfajefefaaDoorDeedsWalks
import Derived.Laws.EntriesVeiled

/- The specification's GetMethod: it answers as the plain function tells; it lays new memory alone. -/
namespace Go.Proofs.YtipjhlfajefefaaDoor.gm
set_option linter.unusedVariables false
open Go.ChangeShapes Go.WideShapes Go.ChangeAt Go.RowKit Go.Proofs.YtipjhlfajefefaaDoor.ls Go.Proofs.YtipjhlfajefefaaDoor.me Go.Proofs.YtipjhlfajefefaaDoor.mp Go.Proofs.YtipjhlfajefefaaDoor.bx

theorem infoS : (Tryd.prog.info? 9).map (fun i => (i.zero, i.size, i.bytes)) = some (some (.string ByteArray.empty), 1, 16) := by kernel_rfl
def zeros : Array Value := #[.int .i64 0, .int .i64 0, .slice none 0 0, .slice none 0 0]

set_option maxRecDepth 100000 in
theorem spec_no (s : ByteArray) (w : World) (hs : s.size ≤ 1048576) (h : at0 s < 0 ∨ (fo.known (cls s) (idn s)).isSome = false) : Calls Tryd.prog 17 #[.string s] w (Post s w) := by
  have hok : ok s = false := by
    unfold ok
    rcases h with h | h
    · simp [h]
    · simp [h]
  have hf : ∀ W, Calls Tryd.prog 19 #[.int .i64 (gi.num s 0 2), .int .i64 (gi.num s 2 2)] W fun e w' => e = .returned (.tuple #[.string (fo.letters (cls s) (idn s)), .bool (fo.known (cls s) (idn s)).isSome]) ∧ w' = W := fun W => fo.spec_form (cls s) (idn s) W
  generalize (fo.known (cls s) (idn s)).isSome = k at h hf
  generalize fo.letters (cls s) (idn s) = fs at hf
  change gi.stop s 2 2 < 0 ∨ _ at h
  have HOK : Hid (ok s = false) := hok
  clear hok
  go_enter Tryd.func17, Tryd.ntmps17
  by_cases ha : gi.stop s 2 2 < 0
  · clear h
    go_wp2_with (first | (go_at_call 55; refine (gi.spec_get _ _ _ _ hs (by decide) (by decide)).mono ?_; rintro e _ ⟨rfl, rfl⟩) | (go_at_call 19; refine (hf _).mono ?_; rintro e _ ⟨rfl, rfl⟩))
    refine bodyPost_ret (v := .tuple #[.agg #[.int .i64 0, .int .i64 0, .slice none 0 0, .slice none 0 0], .bool false]) (by simp [results, Tryd.results17, go_sem]) rfl ?_
    exact post_no HOK.out ((Below.refl _ _).alloc (Nat.le_refl _) _)
  · obtain rfl : k = false := h.resolve_left ha
    clear h
    go_wp2_with (first | (go_at_call 55; refine (gi.spec_get _ _ _ _ hs (by decide) (by decide)).mono ?_; rintro e _ ⟨rfl, rfl⟩) | (go_at_call 19; refine (hf _).mono ?_; rintro e _ ⟨rfl, rfl⟩))
    refine bodyPost_ret (v := .tuple #[.agg #[.int .i64 0, .int .i64 0, .slice none 0 0, .slice none 0 0], .bool false]) (by simp [results, Tryd.results17, go_sem]) rfl ?_
    exact post_no HOK.out ((Below.refl _ _).alloc (Nat.le_refl _) _)

/-- what is so behind k letters: the method so far in block rb -/
structure At (w : World) (s : ByteArray) (T : TypeId) (x y : Value) (rb : Nat) (ps : List (Nat × Obj)) (F : List UInt8) (k : Nat) (a : Int) (ts : List ByteArray) (ns : List Int) (tv nv : Value) (wr : World) : Prop where
  box : Bx wr w.heap.size rb T x y tv nv ts ns ps
  run : rdL s (F.drop k) a ts ns = rdL s F (at0 s) [] []
  tl : ts.length ≤ k
  nl : ns.length ≤ k
  bel : Below w.heap.size w wr

section
variable {w W w2 wr : World} {s : ByteArray} {T : TypeId} {x y tv nv : Value} {rb k : Nat} {ps : List (Nat × Obj)} {F : List UInt8} {a : Int} {ts : List ByteArray} {ns : List Int}
theorem At.below (h : At w s T x y rb ps F k a ts ns tv nv wr) (hb : Below wr.heap.size wr W) : At w s T x y rb ps F k a ts ns tv nv W :=
  { h with box := h.box.below hb, bel := h.bel.trans (hb.mono h.bel.size) }
theorem At.text (h : At w s T x y rb ps F k a ts ns tv nv wr) (hk : k < F.length) (hc : F[k] = 115) (ha : 0 ≤ a) (hb : Below wr.heap.size wr W) {g cap : Nat} (hown : w2.ownsRow w.heap.size 9 1 (.slice (some ⟨g, 0, none⟩) (ts.length + 1) cap) (ts.length + 1) (ts.map Value.string ++ [.string (gs.text s a)])) (hg : W.grownBy w2 tv.ownBlock) (hat : tv.ownBlock = some g ∨ g = W.heap.size) :
    At w s T x y rb ps F (k + 1) (gs.behind s a) (ts ++ [gs.text s a]) ns (.slice (some ⟨g, 0, none⟩) (ts.length + 1) cap) nv (w2.setCell ⟨rb, 2, none⟩ (.slice (some ⟨g, 0, none⟩) (ts.length + 1) cap)) := by
  have h2 := h.box.below hb
  have hbW := h.bel.trans (hb.mono h.bel.size)
  have := h.nl
  have := h.tl
  exact { box := h2.text hown hg hat, run := by rw [← h.run, drop_cons hk, hc, rdL_text ha], tl := by simp; omega, nl := by omega, bel := low hbW hbW.size h2.ot hg h2.lo 2 _ }
theorem At.num (h : At w s T x y rb ps F k a ts ns tv nv wr) (hk : k < F.length) (hc : F[k] ≠ 115) (ha : 0 ≤ a) (hb : Below wr.heap.size wr W) {g cap : Nat} (hown : w2.ownsRow w.heap.size 3 1 (.slice (some ⟨g, 0, none⟩) (ns.length + 1) cap) (ns.length + 1) (ns.map (Value.int .i64) ++ [.int .i64 (gi.num s a ((F[k].toNat : Int) - 48))])) (hg : W.grownBy w2 nv.ownBlock) (hat : nv.ownBlock = some g ∨ g = W.heap.size) :
    At w s T x y rb ps F (k + 1) (gi.stop s a ((F[k].toNat : Int) - 48)) ts (ns ++ [gi.num s a ((F[k].toNat : Int) - 48)]) tv (.slice (some ⟨g, 0, none⟩) (ns.length + 1) cap) (w2.setCell ⟨rb, 3, none⟩ (.slice (some ⟨g, 0, none⟩) (ns.length + 1) cap)) := by
  have h2 := h.box.below hb
  have hbW := h.bel.trans (hb.mono h.bel.size)
  have := h.nl
  have := h.tl
  exact { box := h2.num hown hg hat, run := by rw [← h.run, drop_cons hk, rdL_num ha hc], tl := by omega, nl := by simp; omega, bel := low hbW hbW.size h2.on hg h2.lo 3 _ }
end

/-- the method that is there -/
theorem post_yes {s : ByteArray} {w wr w' : World} {T : TypeId} {x y : Value} {rb : Nat} {F : List UInt8} {k : Nat} {a : Int} {ts : List ByteArray} {ns : List Int} {ta na : Option Addr} {tc nc : Nat} {ps : List (Nat × Obj)}
    (h : At w s T x y rb ps F k a ts ns (.slice ta ts.length tc) (.slice na ns.length nc) wr) (hr : run s = (a, ts, ns)) (hok : ok s = true) (ht : w'.ownsRow w.heap.size 9 1 (.slice ta ts.length tc) ts.length (ts.map Value.string)) (hn : w'.ownsRow w.heap.size 3 1 (.slice na ns.length nc) ns.length (ns.map (Value.int .i64))) (hb : Below w.heap.size w w') :
    Post s w (.returned (.tuple #[.agg #[.int .i64 (cls s), .int .i64 (idn s), .slice ta ts.length tc, .slice na ns.length nc], .bool true])) w' := by
  unfold Post
  rw [hok, if_pos rfl, hr]
  exact ⟨ta, na, tc, nc, rfl, ht, hn, h.box.ap, hb⟩

set_option maxRecDepth 100000 in
set_option maxHeartbeats 1000000 in
theorem spec_yes (s : ByteArray) (w : World) (hs : s.size ≤ 1048576) (ha : 0 ≤ at0 s) (hk : (fo.known (cls s) (idn s)).isSome = true) : Calls Tryd.prog 17 #[.string s] w (Post s w) := by
  obtain ⟨i0, hi, hz0, hz1, hz2⟩ := info_parts infoS
  obtain ⟨j0, gi0, gz0, gz1, gz2⟩ := info_parts infoI
  have hf : ∀ W, Calls Tryd.prog 19 #[.int .i64 (gi.num s 0 2), .int .i64 (gi.num s 2 2)] W fun e w' => e = .returned (.tuple #[.string (fo.letters (cls s) (idn s)), .bool (fo.known (cls s) (idn s)).isSome]) ∧ w' = W := fun W => fo.spec_form (cls s) (idn s) W
  rw [hk] at hf
  have HOK : Hid (ok s = decide ((run s).1 = s.size)) := by
    unfold Hid ok
    have : ¬ at0 s < 0 := by omega
    simp [hk, this]
  have hF5 := F_length (cls s) (idn s)
  obtain ⟨fs, hfs⟩ : ∃ fs, fo.letters (cls s) (idn s) = fs := ⟨_, rfl⟩
  have HF : Hid (F (cls s) (idn s) = fs.data.toList) := by unfold Hid F; rw [hfs]
  have hfl : fs.size ≤ 5 := by rw [HF.out] at hF5; simpa using hF5
  rw [hfs] at hf
  have HR : Hid (run s = rdL s fs.data.toList (at0 s) [] []) := by unfold Hid run; rw [HF.out]
  change 0 ≤ gi.stop s 2 2 at ha
  have ha2 : gi.stop s 2 2 ≤ s.size := by have := stop_bound s 2 2; omega
  clear hk hF5 hfs HF
  go_enter Tryd.func17, Tryd.ntmps17
  go_wp2_with (first | (go_at_call 55; refine (gi.spec_get _ _ _ _ hs (by decide) (by decide)).mono ?_; rintro e _ ⟨rfl, rfl⟩) | (go_at_call 19; refine (hf _).mono ?_; rintro e _ ⟨rfl, rfl⟩))
  clear hf
  have HAT : Hid (At w s 27 (.int .i64 (gi.num s 0 2)) (.int .i64 (gi.num s 2 2)) (w.heap.size + 1) [(w.heap.size, .cells zeros 27 (0, 0))] fs.data.toList 0 (gi.stop s 2 2) [] [] (.slice none 0 0) (.slice none 0 0) ((w.alloc (.cells zeros 27)).alloc (.cells #[.int .i64 (gi.num s 0 2), .int .i64 (gi.num s 2 2), .slice none 0 0, .slice none 0 0] 27))) := by
    have e1 : (w.alloc (.cells zeros 27)).heap.size = w.heap.size + 1 := by simp
    have hn := heap_alloc_new (w.alloc (.cells zeros 27)) (.cells #[.int .i64 (gi.num s 0 2), .int .i64 (gi.num s 2 2), .slice none 0 0, .slice none 0 0] 27)
    rw [e1] at hn
    have ho := heap_alloc_old (w.alloc (.cells zeros 27)) (r := w.heap.size) (.cells #[.int .i64 (gi.num s 0 2), .int .i64 (gi.num s 2 2), .slice none 0 0, .slice none 0 0] 27) (by omega)
    rw [heap_alloc_new w] at ho
    exact { box := ⟨hn, World.ownsRow_nil _ _ _ _, World.ownsRow_nil _ _ _ _, by simp [Value.ownBlock], by simp [Value.ownBlock], by simp [Value.ownBlock], by omega, by
              intro q hq
              simp at hq
              subst hq
              exact ⟨ho, by simp, by simp [Value.ownBlock], by simp [Value.ownBlock]⟩⟩
            run := rfl
            tl := Nat.zero_le _
            nl := Nat.zero_le _
            bel := ((Below.refl _ _).alloc (Nat.le_refl _) _).alloc (by simp) _ }
  go_loopw [7, 11, 12, 13, 14, 15] (fun sa sk _ _ _ _ wr => ∃ (a : Int) (k : Nat) (ts : List ByteArray) (ns : List Int) (tv nv : Value), sa = .int .i64 a ∧ sk = .int .i64 k ∧ k ≤ fs.size ∧ (a = -1 ∨ 0 ≤ a ∧ a ≤ s.size) ∧ Hid (At w s 27 (.int .i64 (gi.num s 0 2)) (.int .i64 (gi.num s 2 2)) (w.heap.size + 1) [(w.heap.size, .cells zeros 27 (0, 0))] fs.data.toList k a ts ns tv nv wr)) (fun _ sk _ _ _ _ _ => fs.size - (intOf sk).toNat)
  case atStart => exact ⟨_, 0, [], [], _, _, rfl, rfl, by omega, by omega, HAT⟩
  case round =>
    obtain ⟨a, k, ts, ns, tv, nv, rfl, rfl, hk, hab, hat⟩ := hrel
    obtain ⟨ta, tc, htv⟩ := own_slice hat.out.box.ot
    obtain ⟨na, nc, hnv⟩ := own_slice hat.out.box.on
    subst htv hnv
    have hbx := hat.out.box
    have e0 : wr.cell? ⟨w.heap.size + 1, 0, none⟩ = some (.int .i64 (gi.num s 0 2)) := cell_of (o := 0) hbx.blk rfl
    have e1 : wr.cell? ⟨w.heap.size + 1, 1, none⟩ = some (.int .i64 (gi.num s 2 2)) := cell_of (o := 1) hbx.blk rfl
    have e2 : wr.cell? ⟨w.heap.size + 1, 2, none⟩ = some (.slice ta ts.length tc) := cell_of (o := 2) hbx.blk rfl
    have e3 : wr.cell? ⟨w.heap.size + 1, 3, none⟩ = some (.slice na ns.length nc) := cell_of (o := 3) hbx.blk rfl
    have hrl := hbx.lt
    have hres := (hbx.keep _ (List.mem_singleton.2 rfl)).1
    have hbel := hat.out.bel
    have htl := hat.out.tl
    have hnl := hat.out.nl
    clear hbx
    by_cases hgo : k < fs.size ∧ 0 ≤ a
    · obtain ⟨hkf, ha0⟩ := hgo
      have hkF : k < fs.data.toList.length := by simpa using hkf
      have hgk : fs.data.toList[k] = fs[k] := rfl
      have hBs := hbel.size
      clear hres e0 e1
      by_cases hsl : fs[k] = 115
      · have hbb : ((fs[k].toNat : Int) == 115) = true := by simp [hsl]
        have hget := gs.spec_getShort s a wr hs (by omega) (by omega)
        have hbd := behind_bound s a
        go_wp2_with (first | (go_at_call 56; refine hget.mono ?_; rintro e w0 ⟨rfl, hb0⟩; have hat0 := hat.out.below hb0; have e2' := cell_of (o := 2) hat0.box.blk rfl; have HAT0 : Hid _ := hat0; have hr0 := hat0.box.lt; have hB0 := hat0.bel.size; clear hat0) | (at_builtin; refine wpList_append_lies _ rfl _ _ 24 rfl w.heap.size 9 i0 (.string ByteArray.empty) 1 16 Tryd.underlying24 hi hz0 hz1 hz2 rfl (by decide) _ _ _ rfl (HAT0.out.box.ot.alloc _) ⟨w0.heap.size, 0, none⟩ 1 1 [.string (gs.text s a)] rfl rfl ?c1 ?c2 (by decide) ?c3 ?c4 ?c5 (w0.heap.size + 1) (by simp) ?_))
        case c1 => exact cell_one_new _ _ _
        case c2 => intro u hu; simp at hu; subst hu; rfl
        case c3 => unfold maxLen; omega
        case c4 => omega
        case c5 => simp; omega
        intro g cap w1 hown hgrow hga hlt
        have h2 := HAT0.out.box.below ((Below.refl _ _).alloc (Nat.le_refl _) (.cells #[.string (gs.text s a)] 9))
        have b1 := (hgrow.block _ h2.lt (Ne.symm h2.nt)).trans h2.blk
        have m2 : w1.cell? ⟨w.heap.size + 1, 2, none⟩ = some (.slice ta ts.length tc) := cell_of (o := 2) b1 rfl
        have f2 : w1.frozen? ⟨w.heap.size + 1, 2, none⟩ = false := free_of (o := 2) b1
        have HN := HAT0.out.text hkF (hgk.trans hsl) ha0 ((Below.refl _ _).alloc (Nat.le_refl _) _) hown hgrow (by simpa using hga)
        clear h2 b1 hown hgrow hga e2 e3
        go_wp2
        go_roundw
        case rel => exact ⟨_, k + 1, _, _, _, _, rfl, by go_num, by omega, hbd, HN⟩
        case measure => simp [intOf]; omega
      · have hbb : ((fs[k].toNat : Int) == 115) = false := by
          rw [beq_eq_false_iff_ne]
          intro e
          apply hsl
          have e2 : fs[k].toNat = 115 := by omega
          exact UInt8.toNat_inj.1 e2
        have hb255 : fs[k].toNat ≤ 255 := by have := fs[k].toNat_lt; omega
        have hget := gi.spec_get s a ((fs[k].toNat : Int) - 48) wr hs (by omega) (by omega)
        have hbd := stop_bound s a ((fs[k].toNat : Int) - 48)
        go_wp2_with (first | (go_at_call 55; refine hget.mono ?_; rintro e w0 ⟨rfl, hw0⟩; obtain rfl := hw0.symm; clear hget) | (at_builtin; refine wpList_append_lies _ rfl _ _ 25 rfl w.heap.size 3 j0 (.int .i64 0) 1 8 Tryd.underlying25 gi0 gz0 gz1 gz2 rfl (by decide) _ _ _ rfl (hat.out.box.on.alloc _) ⟨wr.heap.size, 0, none⟩ 1 1 [.int .i64 (gi.num s a ((fs[k].toNat : Int) - 48))] rfl rfl ?c1 ?c2 (by decide) ?c3 ?c4 ?c5 (wr.heap.size + 1) (by simp) ?_))
        case c1 => exact cell_one_new _ _ _
        case c2 => intro u hu; simp at hu; subst hu; rfl
        case c3 => unfold maxLen; omega
        case c4 => omega
        case c5 => simp; omega
        intro g cap w1 hown hgrow hga hlt
        have h2 := hat.out.box.below ((Below.refl _ _).alloc (Nat.le_refl _) (.cells #[.int .i64 (gi.num s a ((fs[k].toNat : Int) - 48))] 3))
        have b1 := (hgrow.block _ h2.lt (Ne.symm h2.nn)).trans h2.blk
        have m3 : w1.cell? ⟨w.heap.size + 1, 3, none⟩ = some (.slice na ns.length nc) := cell_of (o := 3) b1 rfl
        have f3 : w1.frozen? ⟨w.heap.size + 1, 3, none⟩ = false := free_of (o := 3) b1
        have HN := hat.out.num hkF (by rw [hgk]; exact hsl) ha0 ((Below.refl _ _).alloc (Nat.le_refl _) _) hown hgrow (by simpa using hga)
        rw [hgk] at HN
        clear h2 b1 hown hgrow hga e2 e3
        go_wp2
        go_roundw
        case rel => exact ⟨_, k + 1, _, _, _, _, rfl, by go_num, by omega, hbd, HN⟩
        case measure => simp [intOf]; omega
    · have HE : Hid (run s = (a, ts, ns)) := by
        unfold Hid
        rw [HR.out, ← hat.out.run]
        by_cases hneg : a < 0
        · exact rdL_neg hneg
        · have : k = fs.size := by omega
          rw [this, List.drop_of_length_le (by simp)]
          rfl
      have hout : decide ((k : Int) < fs.size) = false ∨ decide (0 ≤ a) = false := by
        by_cases hneg : a < 0
        · right; simp; omega
        · left; simp; omega
      have hres' := hres
      have g0 := free_of (o := 0) hres
      have g1 := free_of (o := 1) hres
      have g2 := free_of (o := 2) hres
      have g3 := free_of (o := 3) hres
      have r0 : wr.cell? ⟨w.heap.size, 0, none⟩ = some (.int .i64 0) := cell_of (o := 0) hres rfl
      have r1 : wr.cell? ⟨w.heap.size, 1, none⟩ = some (.int .i64 0) := cell_of (o := 1) hres rfl
      have r2 : wr.cell? ⟨w.heap.size, 2, none⟩ = some (.slice none 0 0) := cell_of (o := 2) hres rfl
      have r3 : wr.cell? ⟨w.heap.size, 3, none⟩ = some (.slice none 0 0) := cell_of (o := 3) hres rfl
      clear hres hres' HR HAT
      by_cases haz : a = s.size
      · have HOT : Hid (ok s = true) := by unfold Hid; rw [HOK.out, HE.out]; simp [haz]
        subst haz
        have hkk : k = fs.size := by omega
        subst hkk
        clear hout hgo hab
        go_wp2
        refine bodyPost_ret (v := .tuple #[.agg #[.int .i64 (gi.num s 0 2), .int .i64 (gi.num s 2 2), .slice ta ts.length tc, .slice na ns.length nc], .bool true]) (by simp [results, Tryd.results17, go_sem, r0, r1, r2, r3]) rfl ?_
        have k1 := (hat.out.box.keep _ (List.mem_singleton.2 rfl)).2.2
        exact post_yes hat.out HE.out HOT.out (own_set (own_set (own_set (own_set hat.out.box.ot k1.1 _) k1.1 _) k1.1 _) k1.1 _) (own_set (own_set (own_set (own_set hat.out.box.on k1.2 _) k1.2 _) k1.2 _) k1.2 _) ((((hbel.setCell (by simp) _).setCell (by simp) _).setCell (by simp) _).setCell (by simp) _)
      · have HOF : Hid (ok s = false) := by unfold Hid; rw [HOK.out, HE.out]; simp [haz]
        by_cases hneg : a < 0
        · have hax : (a == (s.size : Int)) = false := by simpa using haz
          clear hout hgo hab
          by_cases hkk : k < fs.size
          · go_wp2
            refine bodyPost_ret (v := .tuple #[.agg #[.int .i64 0, .int .i64 0, .slice none 0 0, .slice none 0 0], .bool false]) (by simp [results, Tryd.results17, go_sem, r0, r1, r2, r3]) rfl ?_
            exact post_no HOF.out ((((hbel.setCell (by simp) _).setCell (by simp) _).setCell (by simp) _).setCell (by simp) _)
          · go_wp2
            refine bodyPost_ret (v := .tuple #[.agg #[.int .i64 0, .int .i64 0, .slice none 0 0, .slice none 0 0], .bool false]) (by simp [results, Tryd.results17, go_sem, r0, r1, r2, r3]) rfl ?_
            exact post_no HOF.out ((((hbel.setCell (by simp) _).setCell (by simp) _).setCell (by simp) _).setCell (by simp) _)
        · have hkk : k = fs.size := by omega
          subst hkk
          have hax : (a == (s.size : Int)) = false := by simpa using haz
          clear hout hgo hab
          go_wp2
          refine bodyPost_ret (v := .tuple #[.agg #[.int .i64 0, .int .i64 0, .slice none 0 0, .slice none 0 0], .bool false]) (by simp [results, Tryd.results17, go_sem, r0, r1, r2, r3]) rfl ?_
          exact post_no HOF.out ((((hbel.setCell (by simp) _).setCell (by simp) _).setCell (by simp) _).setCell (by simp) _)

theorem spec_get (s : ByteArray) (w : World) (hs : s.size ≤ 1048576) : Calls Tryd.prog 17 #[.string s] w (Post s w) := by
  by_cases ha : at0 s < 0
  · exact spec_no s w hs (.inl ha)
  · cases hk : (fo.known (cls s) (idn s)).isSome with
    | false => exact spec_no s w hs (.inr hk)
    | true => exact spec_yes s w hs (by omega) hk
end Go.Proofs.YtipjhlfajefefaaDoor.gm

/- The program's reader of a method, part by part: a text or a number is taken off the bytes and laid behind those that it has; it turns nothing that lay ahead of it. -/
namespace Go.Proofs.YtipjhlfajefefaaDoor.rd
set_option linter.unusedVariables false
open Go.ChangeShapes Go.WideShapes Go.ChangeAt Go.RowKit Go.Proofs.YtipjhlfajefefaaDoor.ls Go.Proofs.YtipjhlfajefefaaDoor.me Go.Proofs.YtipjhlfajefefaaDoor.mp Go.Proofs.YtipjhlfajefefaaDoor.bx

theorem infoS : (Tryd.prog.info? 9).map (fun i => (i.zero, i.size, i.bytes)) = some (some (.string ByteArray.empty), 1, 16) := by kernel_rfl

set_option maxRecDepth 100000 in
theorem text_get (s : ByteArray) (p : Int) (z : Int) (B rb : Nat) (tv nv : Value) (ts : List ByteArray) (ns : List Int) (ps : List (Nat × Obj)) (w : World) (h : Bx w B rb 82 (.string s) (.int .i64 p) tv nv ts ns ps) (hs : s.size ≤ 1048576) (hp1 : -9223372036854775808 ≤ p) (hp2 : p ≤ 9223372036854775807) (ht : ts.length ≤ 1048576) (hB : B ≤ w.heap.size) :
    Calls Tryd.prog 109 #[.pointer (some ⟨rb, 0, none⟩), .int .i64 z] w fun e w' =>
      (e = .returned (.bool true) ∧ 0 ≤ gs.behind s p ∧ (∃ tv', Bx w' B rb 82 (.string s) (.int .i64 (gs.behind s p)) tv' nv (ts ++ [gs.text s p]) ns ps) ∧ Below B w w') ∨
      (e = .returned (.bool false) ∧ gs.behind s p < 0 ∧ Bx w' B rb 82 (.string s) (.int .i64 p) tv nv ts ns ps ∧ Below B w w') := by
  obtain ⟨i0, hi, hz0, hz1, hz2⟩ := info_parts infoS
  have hget := fun W => gs.impl_getShort s p W hs hp1 hp2
  obtain ⟨t, ht'⟩ : ∃ t, gs.text s p = t := ⟨_, rfl⟩
  obtain ⟨q, hq⟩ : ∃ q, gs.behind s p = q := ⟨_, rfl⟩
  simp only [ht', hq] at hget ⊢
  have hg0 : ∀ N : qi.Cls w, N.x.cell? ⟨rb, 0, none⟩ = some (.string s) := fun N => cell_of (o := 0) (h.below N.h).blk rfl
  have hg1 : ∀ N : qi.Cls w, N.x.cell? ⟨rb, 1, none⟩ = some (.int .i64 p) := fun N => cell_of (o := 1) (h.below N.h).blk rfl
  have H : Hid (Bx w B rb 82 (.string s) (.int .i64 p) tv nv ts ns ps) := h
  clear h ht' hq
  have hT := qi.T.refl w
  go_enter Tryd.func109, Tryd.ntmps109
  go_wp2
  refine qi.region_in _ hT (by kernel_rfl) (by kernel_rfl) ?_
  repeat (go_big_quiet_step ((go_at_call 140; refine (hget _).mono ?_; rintro e wx ⟨rfl, hTx⟩; exact ⟨rfl, ⟨wx, qi.T.next (qi.Cls.h _) hTx⟩, rfl⟩)))
  refine wpQuiet_nil ?_
  rintro _ ⟨N, rfl⟩
  have hN := N.h
  generalize N.x = wN at hN ⊢
  clear N hg0 hg1 hT
  have h1 := H.out.below hN
  have H1 : Hid (Bx wN B rb 82 (.string s) (.int .i64 p) tv nv ts ns ps) := h1
  have hbN : Below B w wN := Below.mono hN hB
  have hBN : B ≤ wN.heap.size := Nat.le_trans hB (qi.T.size hN)
  by_cases hq : q < 0
  · clear h1
    go_wp2
    go_ret
    exact .inr ⟨rfl, hq, H1.out, hbN⟩
  · have k2 : wN.cell? ⟨rb, 2, none⟩ = some tv := cell_of (o := 2) h1.blk rfl
    have hrl := h1.lt
    clear h1
    go_wp2_with (at_builtin; refine wpList_append_lies _ rfl _ _ 24 rfl B 9 i0 (.string ByteArray.empty) 1 16 Tryd.underlying24 hi hz0 hz1 hz2 rfl (by decide) _ _ _ rfl (H1.out.ot.alloc _) ⟨wN.heap.size, 0, none⟩ 1 1 [.string t] rfl rfl ?c1 ?c2 (by decide) ?c3 ?c4 ?c5 (wN.heap.size + 1) (by simp) ?_)
    case c2 => rfl
    case c3 => unfold maxLen; omega
    case c4 => omega
    case c5 => omega
    intro g cap w1 hown hgrow hat hlt
    have hal : Below wN.heap.size wN (wN.alloc (.cells #[.string t] 9)) := (Below.refl _ _).alloc (Nat.le_refl _) _
    have h2 := H1.out.below hal
    have hbx := h2.text hown hgrow (by simpa using hat)
    have hlo := low (rb := rb) ((hbN.trans (hal.mono hBN))) (by simp; omega) h2.ot hgrow h2.lo 2 (.slice (some ⟨g, 0, none⟩) (ts.length + 1) cap)
    have b1 := (hgrow.block rb h2.lt (Ne.symm h2.nt)).trans h2.blk
    have m2 : w1.cell? ⟨rb, 2, none⟩ = some tv := cell_of (o := 2) b1 rfl
    have f2 : w1.frozen? ⟨rb, 2, none⟩ = false := free_of (o := 2) b1
    have m1 : (w1.setCell ⟨rb, 2, none⟩ (.slice (some ⟨g, 0, none⟩) (ts.length + 1) cap)).cell? ⟨rb, 1, none⟩ = some (.int .i64 p) := cell_of (o := 1) hbx.blk rfl
    have f1 : (w1.setCell ⟨rb, 2, none⟩ (.slice (some ⟨g, 0, none⟩) (ts.length + 1) cap)).frozen? ⟨rb, 1, none⟩ = false := free_of (o := 1) hbx.blk
    have HBX : Hid (Bx ((w1.setCell ⟨rb, 2, none⟩ (.slice (some ⟨g, 0, none⟩) (ts.length + 1) cap)).setCell ⟨rb, 1, none⟩ (.int .i64 q)) B rb 82 (.string s) (.int .i64 q) (.slice (some ⟨g, 0, none⟩) (ts.length + 1) cap) nv (ts ++ [t]) ns ps) := hbx.set1 _
    have hlo2 : Below B w ((w1.setCell ⟨rb, 2, none⟩ (.slice (some ⟨g, 0, none⟩) (ts.length + 1) cap)).setCell ⟨rb, 1, none⟩ (.int .i64 q)) := hlo.setCell h2.lo _
    clear h2 hbx hlo b1 hal hown hgrow hat k2
    go_wp2
    go_ret
    exact .inl ⟨rfl, by omega, ⟨_, HBX.out⟩, hlo2⟩
set_option maxRecDepth 100000 in
theorem num_get (s : ByteArray) (p : Int) (z : Int) (B rb : Nat) (tv nv : Value) (ts : List ByteArray) (ns : List Int) (ps : List (Nat × Obj)) (w : World) (h : Bx w B rb 82 (.string s) (.int .i64 p) tv nv ts ns ps) (hs : s.size ≤ 1048576) (hp1 : -9223372036854775808 ≤ p) (hp2 : p ≤ 9223372036854775807) (ht : ns.length ≤ 1048576) (hB : B ≤ w.heap.size) :
    Calls Tryd.prog 111 #[.pointer (some ⟨rb, 0, none⟩), .int .i64 z] w fun e w' =>
      (e = .returned (.bool true) ∧ 0 ≤ gi.stop s p z ∧ (∃ nv', Bx w' B rb 82 (.string s) (.int .i64 (gi.stop s p z)) tv nv' ts (ns ++ [gi.num s p z]) ps) ∧ Below B w w') ∨
      (e = .returned (.bool false) ∧ gi.stop s p z < 0 ∧ Bx w' B rb 82 (.string s) (.int .i64 p) tv nv ts ns ps ∧ Below B w w') := by
  obtain ⟨i0, hi, hz0, hz1, hz2⟩ := info_parts infoI
  have hget := fun W => gi.impl_get s p z W hs hp1 hp2
  obtain ⟨t, ht'⟩ : ∃ t, gi.num s p z = t := ⟨_, rfl⟩
  obtain ⟨q, hq⟩ : ∃ q, gi.stop s p z = q := ⟨_, rfl⟩
  simp only [ht', hq] at hget ⊢
  have hg0 : ∀ N : qi.Cls w, N.x.cell? ⟨rb, 0, none⟩ = some (.string s) := fun N => cell_of (o := 0) (h.below N.h).blk rfl
  have hg1 : ∀ N : qi.Cls w, N.x.cell? ⟨rb, 1, none⟩ = some (.int .i64 p) := fun N => cell_of (o := 1) (h.below N.h).blk rfl
  have H : Hid (Bx w B rb 82 (.string s) (.int .i64 p) tv nv ts ns ps) := h
  clear h ht' hq
  have hT := qi.T.refl w
  go_enter Tryd.func111, Tryd.ntmps111
  go_wp2
  refine qi.region_in _ hT (by kernel_rfl) (by kernel_rfl) ?_
  repeat (go_big_quiet_step ((go_at_call 53; refine (hget _).mono ?_; rintro e _ ⟨rfl, rfl⟩; exact ⟨rfl, _, rfl⟩)))
  refine wpQuiet_nil ?_
  rintro _ ⟨N, rfl⟩
  have hN := N.h
  generalize N.x = wN at hN ⊢
  clear N hg0 hg1 hT
  have h1 := H.out.below hN
  have H1 : Hid (Bx wN B rb 82 (.string s) (.int .i64 p) tv nv ts ns ps) := h1
  have hbN : Below B w wN := Below.mono hN hB
  have hBN : B ≤ wN.heap.size := Nat.le_trans hB (qi.T.size hN)
  by_cases hq : q < 0
  · clear h1
    go_wp2
    go_ret
    exact .inr ⟨rfl, hq, H1.out, hbN⟩
  · have k2 : wN.cell? ⟨rb, 3, none⟩ = some nv := cell_of (o := 3) h1.blk rfl
    have hrl := h1.lt
    clear h1
    go_wp2_with (at_builtin; refine wpList_append_lies _ rfl _ _ 25 rfl B 3 i0 (.int .i64 0) 1 8 Tryd.underlying25 hi hz0 hz1 hz2 rfl (by decide) _ _ _ rfl (H1.out.on.alloc _) ⟨wN.heap.size, 0, none⟩ 1 1 [.int .i64 t] rfl rfl ?c1 ?c2 (by decide) ?c3 ?c4 ?c5 (wN.heap.size + 1) (by simp) ?_)
    case c2 => rfl
    case c3 => unfold maxLen; omega
    case c4 => omega
    case c5 => omega
    intro g cap w1 hown hgrow hat hlt
    have hal : Below wN.heap.size wN (wN.alloc (.cells #[.int .i64 t] 3)) := (Below.refl _ _).alloc (Nat.le_refl _) _
    have h2 := H1.out.below hal
    have hbx := h2.num hown hgrow (by simpa using hat)
    have hlo := low (rb := rb) ((hbN.trans (hal.mono hBN))) (by simp; omega) h2.on hgrow h2.lo 3 (.slice (some ⟨g, 0, none⟩) (ns.length + 1) cap)
    have b1 := (hgrow.block rb h2.lt (Ne.symm h2.nn)).trans h2.blk
    have m2 : w1.cell? ⟨rb, 3, none⟩ = some nv := cell_of (o := 3) b1 rfl
    have f2 : w1.frozen? ⟨rb, 3, none⟩ = false := free_of (o := 3) b1
    have m1 : (w1.setCell ⟨rb, 3, none⟩ (.slice (some ⟨g, 0, none⟩) (ns.length + 1) cap)).cell? ⟨rb, 1, none⟩ = some (.int .i64 p) := cell_of (o := 1) hbx.blk rfl
    have f1 : (w1.setCell ⟨rb, 3, none⟩ (.slice (some ⟨g, 0, none⟩) (ns.length + 1) cap)).frozen? ⟨rb, 1, none⟩ = false := free_of (o := 1) hbx.blk
    have HBX : Hid (Bx ((w1.setCell ⟨rb, 3, none⟩ (.slice (some ⟨g, 0, none⟩) (ns.length + 1) cap)).setCell ⟨rb, 1, none⟩ (.int .i64 q)) B rb 82 (.string s) (.int .i64 q) tv (.slice (some ⟨g, 0, none⟩) (ns.length + 1) cap) ts (ns ++ [t]) ps) := hbx.set1 _
    have hlo2 : Below B w ((w1.setCell ⟨rb, 3, none⟩ (.slice (some ⟨g, 0, none⟩) (ns.length + 1) cap)).setCell ⟨rb, 1, none⟩ (.int .i64 q)) := hlo.setCell h2.lo _
    clear h2 hbx hlo b1 hal hown hgrow hat k2
    go_wp2
    go_ret
    exact .inl ⟨rfl, by omega, ⟨_, HBX.out⟩, hlo2⟩
end Go.Proofs.YtipjhlfajefefaaDoor.rd

/- The program's GetMethod: it answers as the plain function tells; it lays new memory alone. -/
namespace Go.Proofs.YtipjhlfajefefaaDoor.gm
set_option linter.unusedVariables false
open Go.ChangeShapes Go.WideShapes Go.ChangeAt Go.RowKit Go.Maps Go.Proofs.YtipjhlfajefefaaDoor.ls Go.Proofs.YtipjhlfajefefaaDoor.me Go.Proofs.YtipjhlfajefefaaDoor.mp Go.Proofs.YtipjhlfajefefaaDoor.bx

/-- what is so behind k letters, whatever has been read -/
def Nx (w : World) (s : ByteArray) (rb : Nat) (ps : List (Nat × Obj)) (F : List UInt8) (k : Nat) (wr : World) : Prop :=
  ∃ (a : Int) (ts : List ByteArray) (ns : List Int) (tv nv : Value), (0 ≤ a ∧ a ≤ s.size) ∧ At w s 82 (.string s) (.int .i64 a) rb ps F k a ts ns tv nv wr
/-- there is no such part -/
def Fl (w : World) (s : ByteArray) (ps : List (Nat × Obj)) (F : List UInt8) (w2 : World) : Prop := (rdL s F (at0 s) [] []).1 < 0 ∧ Below w.heap.size w w2 ∧ ∀ q ∈ ps, w2.heap[q.1]? = some q.2

section
variable {w wr W : World} {s : ByteArray} {rb k : Nat} {ps : List (Nat × Obj)} {F : List UInt8}
theorem Nx.below (h : Nx w s rb ps F k wr) (hb : Below wr.heap.size wr W) : Nx w s rb ps F k W := by
  obtain ⟨a, ts, ns, tv, nv, ha, h⟩ := h
  exact ⟨a, ts, ns, tv, nv, ha, h.below hb⟩
theorem Nx.keep (h : Nx w s rb ps F k wr) : ∀ q ∈ ps, wr.heap[q.1]? = some q.2 := by
  obtain ⟨a, ts, ns, tv, nv, ha, h⟩ := h
  exact fun q hq => (h.box.keep q hq).1

theorem deed_text (h : Nx w s rb ps F k wr) (hs : s.size ≤ 1048576) (hk : k < F.length) (hk5 : F.length ≤ 5) (hc : F[k] = 115) :
    Calls Tryd.prog 109 #[.pointer (some ⟨rb, 0, none⟩), .int .i64 0] wr fun e w2 => (e = .returned (.bool true) ∧ Nx w s rb ps F (k + 1) w2) ∨ (e = .returned (.bool false) ∧ Fl w s ps F w2) := by
  obtain ⟨a, ts, ns, tv, nv, ha, h⟩ := h
  have htl := h.tl
  have hnl := h.nl
  refine (rd.text_get s a 0 w.heap.size rb tv nv ts ns ps wr h.box hs (by omega) (by omega) (by omega) h.bel.size).mono ?_
  rintro e w2 (⟨rfl, hb, ⟨tv', hbx⟩, hlo⟩ | ⟨rfl, hb, hbx, hlo⟩)
  · have hbd := behind_bound s a
    refine .inl ⟨rfl, gs.behind s a, ts ++ [gs.text s a], ns, tv', nv, by omega, { box := hbx, run := ?_, tl := by simp; omega, nl := by omega, bel := h.bel.trans hlo }⟩
    rw [← h.run, drop_cons hk, hc, rdL_text ha.1]
  · refine .inr ⟨rfl, ?_, h.bel.trans hlo, fun q hq => (hbx.keep q hq).1⟩
    rw [← h.run, drop_cons hk, hc, rdL_text ha.1, rdL_neg hb]
    exact hb

theorem deed_num (h : Nx w s rb ps F k wr) (hs : s.size ≤ 1048576) (hk : k < F.length) (hk5 : F.length ≤ 5) (hc : F[k] ≠ 115) :
    Calls Tryd.prog 111 #[.pointer (some ⟨rb, 0, none⟩), .int .i64 ((F[k].toNat : Int) - 48)] wr fun e w2 => (e = .returned (.bool true) ∧ Nx w s rb ps F (k + 1) w2) ∨ (e = .returned (.bool false) ∧ Fl w s ps F w2) := by
  obtain ⟨a, ts, ns, tv, nv, ha, h⟩ := h
  have htl := h.tl
  have hnl := h.nl
  refine (rd.num_get s a ((F[k].toNat : Int) - 48) w.heap.size rb tv nv ts ns ps wr h.box hs (by omega) (by omega) (by omega) h.bel.size).mono ?_
  rintro e w2 (⟨rfl, hb, ⟨nv', hbx⟩, hlo⟩ | ⟨rfl, hb, hbx, hlo⟩)
  · have hbd := stop_bound s a ((F[k].toNat : Int) - 48)
    refine .inl ⟨rfl, gi.stop s a ((F[k].toNat : Int) - 48), ts, ns ++ [gi.num s a ((F[k].toNat : Int) - 48)], tv, nv', by omega, { box := hbx, run := ?_, tl := by omega, nl := by simp; omega, bel := h.bel.trans hlo }⟩
    rw [← h.run, drop_cons hk, rdL_num ha.1 hc]
  · refine .inr ⟨rfl, ?_, h.bel.trans hlo, fun q hq => (hbx.keep q hq).1⟩
    rw [← h.run, drop_cons hk, rdL_num ha.1 hc, rdL_neg hb]
    exact hb
end

set_option maxRecDepth 100000 in
set_option maxHeartbeats 1000000 in
theorem impl_no (s : ByteArray) (w : World) (hs : s.size ≤ 1048576) (h : at0 s < 0 ∨ (fo.known (cls s) (idn s)).isSome = false) : Calls Tryd.prog 16 #[.string s] w (Post s w) := by
  have hok : ok s = false := by
    unfold ok
    rcases h with h | h
    · simp [h]
    · simp [h]
  have hf := fun W => fo.impl_form (cls s) (idn s) W (num_wf s 0 2) (num_wf s 2 2)
  have h1 := fun W => gi.impl_get s 0 2 W hs (by decide) (by decide)
  have h2 := fun W => gi.impl_get s (gi.stop s 0 2) 2 W hs (by have := stop_bound s 0 2; omega) (by have := stop_bound s 0 2; omega)
  simp only [(second s).1, (second s).2] at h2
  change ∀ W, Calls _ _ _ W fun e w' => e = .returned (.tuple #[.int .i64 (cls s), .int .i64 (gi.stop s 0 2)]) ∧ _ at h1
  generalize (fo.known (cls s) (idn s)).isSome = kn at h hf
  generalize fo.letters (cls s) (idn s) = fs at hf
  generalize cls s = c at h1 hf
  generalize idn s = i at h2 hf
  generalize at0 s = a at h2 h
  generalize gi.stop s 0 2 = b at h1 h2
  have HOK : Hid (ok s = false) := hok
  clear hok
  go_enter Tryd.func16, Tryd.ntmps16
  by_cases ha : a < 0
  · clear h
    go_wp2_with (first | (go_at_call 53; first | (refine (h1 _).mono ?_; rintro e w0 ⟨rfl, hw0⟩; obtain rfl := hw0.symm; clear h1) | (refine (h2 _).mono ?_; rintro e w0 ⟨rfl, hw0⟩; obtain rfl := hw0.symm)) | (go_at_call 18; refine (hf _).mono ?_; rintro e w1 ⟨rfl, hb1⟩; obtain ⟨hc1, hf1⟩ := bcell hb1))
    refine bodyPost_ret (v := .tuple #[.agg #[.int .i64 0, .int .i64 0, .slice none 0 0, .slice none 0 0], .bool false]) (by simp [results, Tryd.results16, go_sem, hc1]) rfl ?_
    have hbw : Below w.heap.size w w1 := ((Below.refl _ _).alloc (Nat.le_refl _) _).trans (hb1.mono (by simp))
    exact post_no HOK.out ((((hbw.setCell (by simp) _).setCell (by simp) _).setCell (by simp) _).setCell (by simp) _)
  · obtain rfl : kn = false := h.resolve_left ha
    clear h
    go_wp2_with (first | (go_at_call 53; first | (refine (h1 _).mono ?_; rintro e w0 ⟨rfl, hw0⟩; obtain rfl := hw0.symm; clear h1) | (refine (h2 _).mono ?_; rintro e w0 ⟨rfl, hw0⟩; obtain rfl := hw0.symm)) | (go_at_call 18; refine (hf _).mono ?_; rintro e w1 ⟨rfl, hb1⟩; obtain ⟨hc1, hf1⟩ := bcell hb1))
    refine bodyPost_ret (v := .tuple #[.agg #[.int .i64 0, .int .i64 0, .slice none 0 0, .slice none 0 0], .bool false]) (by simp [results, Tryd.results16, go_sem, hc1]) rfl ?_
    have hbw : Below w.heap.size w w1 := ((Below.refl _ _).alloc (Nat.le_refl _) _).trans (hb1.mono (by simp))
    exact post_no HOK.out ((((hbw.setCell (by simp) _).setCell (by simp) _).setCell (by simp) _).setCell (by simp) _)

set_option maxRecDepth 100000 in
set_option maxHeartbeats 2000000 in
theorem impl_yes (s : ByteArray) (w : World) (hs : s.size ≤ 1048576) (ha : 0 ≤ at0 s) (hk : (fo.known (cls s) (idn s)).isSome = true) : Calls Tryd.prog 16 #[.string s] w (Post s w) := by
  have hf := fun W => fo.impl_form (cls s) (idn s) W (num_wf s 0 2) (num_wf s 2 2)
  simp only [hk] at hf
  have h1 := fun W => gi.impl_get s 0 2 W hs (by decide) (by decide)
  have h2 := fun W => gi.impl_get s (gi.stop s 0 2) 2 W hs (by have := stop_bound s 0 2; omega) (by have := stop_bound s 0 2; omega)
  simp only [(second s).1, (second s).2] at h2
  change ∀ W, Calls _ _ _ W fun e w' => e = .returned (.tuple #[.int .i64 (cls s), .int .i64 (gi.stop s 0 2)]) ∧ _ at h1
  have HOK : Hid (ok s = decide ((run s).1 = s.size)) := by
    unfold Hid ok
    have : ¬ at0 s < 0 := by omega
    simp [hk, this]
  have hF5 := F_length (cls s) (idn s)
  have HLT : Hid (∀ x ∈ F (cls s) (idn s), letter x = true) := letters_ok _ _
  obtain ⟨fs, hfs⟩ : ∃ fs, fo.letters (cls s) (idn s) = fs := ⟨_, rfl⟩
  have HF : Hid (F (cls s) (idn s) = fs.data.toList) := by unfold Hid F; rw [hfs]
  have hfl : fs.size ≤ 5 := by rw [HF.out] at hF5; simpa using hF5
  simp only [hfs] at hf
  have HR : Hid (run s = rdL s fs.data.toList (at0 s) [] []) := by unfold Hid run; rw [HF.out]
  have ha2 : at0 s ≤ s.size := by have := stop_bound s 2 2; unfold at0; omega
  obtain ⟨c, hc⟩ : ∃ c, cls s = c := ⟨_, rfl⟩
  obtain ⟨i, hi⟩ : ∃ i, idn s = i := ⟨_, rfl⟩
  obtain ⟨a, haa⟩ : ∃ a, at0 s = a := ⟨_, rfl⟩
  have HC : Hid (cls s = c) := hc
  have HI : Hid (idn s = i) := hi
  have HA : Hid (at0 s = a) := haa
  rw [hc, hi] at HLT HF
  simp only [hc] at h1 hf
  simp only [hi] at h2 hf
  simp only [haa] at h2
  rw [haa] at ha ha2
  generalize gi.stop s 0 2 = b at h1 h2
  clear hk hF5 hfs hc hi haa
  go_enter Tryd.func16, Tryd.ntmps16
  go_wp2_with (first | (go_at_call 53; first | (refine (h1 _).mono ?_; rintro e w0 ⟨rfl, hw0⟩; obtain rfl := hw0.symm; clear h1) | (refine (h2 _).mono ?_; rintro e w0 ⟨rfl, hw0⟩; obtain rfl := hw0.symm)) | (go_at_call 18; refine (hf _).mono ?_; rintro e w1 ⟨rfl, hb1⟩) | (go_at_call 54; refine (dd.impl_deeds _).mono ?_; rintro e _ ⟨rfl, rfl⟩))
  have hbw : Below w.heap.size w w1 := ((Below.refl _ _).alloc (Nat.le_refl _) _).trans (hb1.mono (by simp))
  have hlw : w.heap.size < w1.heap.size := by have := hb1.size; simp at this; omega
  have hres0 : w1.heap[w.heap.size]? = some (.cells zeros 27 (0, 0)) := by rw [hb1.block _ (by simp)]; exact heap_alloc_new w _
  clear hb1 hf h2
  obtain ⟨ps, hps⟩ : ∃ ps, [(w.heap.size, Obj.cells zeros 27 (0, 0)), (w1.heap.size + 1, ml.mapOf dd.deeds)] = ps := ⟨_, rfl⟩
  have HNX : Hid (Nx w s w1.heap.size ps fs.data.toList 0 ((w1.alloc (.cells #[.string s, .int .i64 a, .slice none 0 0, .slice none 0 0] 82)).alloc (ml.mapOf dd.deeds))) := by
    have e1 : (w1.alloc (.cells #[.string s, .int .i64 a, .slice none 0 0, .slice none 0 0] 82)).heap.size = w1.heap.size + 1 := by simp
    have hn := heap_alloc_new (w1.alloc (.cells #[.string s, .int .i64 a, .slice none 0 0, .slice none 0 0] 82)) (ml.mapOf dd.deeds)
    rw [e1] at hn
    have ho := heap_alloc_old (w1.alloc (.cells #[.string s, .int .i64 a, .slice none 0 0, .slice none 0 0] 82)) (r := w1.heap.size) (ml.mapOf dd.deeds) (by omega)
    rw [heap_alloc_new w1] at ho
    have hz := heap_alloc_old (w1.alloc (.cells #[.string s, .int .i64 a, .slice none 0 0, .slice none 0 0] 82)) (r := w.heap.size) (ml.mapOf dd.deeds) (by omega)
    rw [heap_alloc_old w1 _ hlw, hres0] at hz
    refine ⟨a, [], [], .slice none 0 0, .slice none 0 0, ⟨ha, ha2⟩, ?_⟩
    exact { box := ⟨ho, World.ownsRow_nil _ _ _ _, World.ownsRow_nil _ _ _ _, by simp [Value.ownBlock], by simp [Value.ownBlock], by simp [Value.ownBlock], by omega, by
              intro q hq
              rw [← hps] at hq
              simp at hq
              rcases hq with rfl | rfl
              · exact ⟨hz, by simp; omega, by simp [Value.ownBlock], by simp [Value.ownBlock]⟩
              · exact ⟨hn, by simp, by simp [Value.ownBlock], by simp [Value.ownBlock]⟩⟩
            run := by rw [HA.out]; rfl
            tl := Nat.zero_le _
            nl := Nat.zero_le _
            bel := (hbw.alloc (by omega) _).alloc (by simp; omega) _ }
  have hm1 : (w.heap.size, Obj.cells zeros 27 (0, 0)) ∈ ps := by rw [← hps]; simp
  have hm2 : (w1.heap.size + 1, ml.mapOf dd.deeds) ∈ ps := by rw [← hps]; simp
  have HP1 : Hid _ := hm1
  have HP2 : Hid _ := hm2
  obtain ⟨rb, hrb⟩ : ∃ rb, w1.heap.size = rb := ⟨_, rfl⟩
  rw [hrb] at HNX HP2 hlw ⊢
  clear hps hres0 hm1 hm2 hbw
  go_loopw [43] (fun sk wr => ∃ k : Nat, k ≤ fs.size ∧ sk = .int .i64 k ∧ Hid (Nx w s rb ps fs.data.toList k wr) ∧ rb + 1 < wr.heap.size) (fun sk _ => fs.size - (intOf sk).toNat)
  case atStart => exact ⟨0, by omega, rfl, HNX, by simp; omega⟩
  case round =>
    obtain ⟨k, hk, rfl, hat, hlr⟩ := hrel
    have FIN : ∀ w2, Fl w s ps fs.data.toList w2 → ok s = false ∧ Below w.heap.size w w2 ∧ w2.heap[w.heap.size]? = some (.cells zeros 27 (0, 0)) := fun w2 hf => by
      refine ⟨?_, hf.2.1, hf.2.2 _ HP1.out⟩
      have := hf.1
      rw [HOK.out, HR.out]
      simp
      omega
    by_cases hkf : k < fs.size
    · have hkF : k < fs.data.toList.length := by simpa using hkf
      have hgk : fs.data.toList[k] = fs[k] := rfl
      have hF5' : fs.data.toList.length ≤ 5 := by simpa using hfl
      by_cases hsl : fs[k] = 115
      · have hlk : (Instr.lookup 83 (.map (some (rb + 1))) (.int .u8 (fs[k].toNat : Int)) false).run Tryd.prog wr = .ok (.agg #[.int .i64 0, .func (.func 108) #[] #[], .func (.func 109) #[] #[]]) wr := by
          rw [hsl]
          exact dd.look_text (hat.out.keep _ HP2.out)
        have hdeed := deed_text (F := fs.data.toList) (hat.out.below (W := wr.alloc (.cells #[.int .i64 0, .func (.func 108) #[] #[], .func (.func 109) #[] #[]] 88)) ((Below.refl _ _).alloc (Nat.le_refl _) _)) hs hkF hF5' (hgk.trans hsl)
        have HFIN : Hid _ := FIN
        clear hsl hgk FIN
        go_wp2_with fail
        refine hdeed.mono ?_
        rintro e w2 (⟨rfl, hat2⟩ | ⟨rfl, hf⟩)
        · have hl2 : rb + 1 < w2.heap.size := (Array.getElem?_eq_some_iff.1 (hat2.keep _ HP2.out)).1
          have HA2 : Hid _ := hat2
          clear hat2
          go_wp2
          go_roundw
          case rel => exact ⟨k + 1, by omega, by go_num, HA2, hl2⟩
          case measure => simp [intOf]; omega
        · obtain ⟨hokf, hbf, hrf⟩ := HFIN.out w2 hf
          have HOF : Hid (ok s = false) := hokf
          have r0 : w2.cell? ⟨w.heap.size, 0, none⟩ = some (.int .i64 0) := cell_of (o := 0) hrf rfl
          have r1 : w2.cell? ⟨w.heap.size, 1, none⟩ = some (.int .i64 0) := cell_of (o := 1) hrf rfl
          have r2 : w2.cell? ⟨w.heap.size, 2, none⟩ = some (.slice none 0 0) := cell_of (o := 2) hrf rfl
          have r3 : w2.cell? ⟨w.heap.size, 3, none⟩ = some (.slice none 0 0) := cell_of (o := 3) hrf rfl
          have g0 := free_of (o := 0) hrf
          have g1 := free_of (o := 1) hrf
          have g2 := free_of (o := 2) hrf
          have g3 := free_of (o := 3) hrf
          clear hrf hokf hf
          go_wp2
          refine bodyPost_ret (v := .tuple #[.agg #[.int .i64 0, .int .i64 0, .slice none 0 0, .slice none 0 0], .bool false]) (by simp [results, Tryd.results16, go_sem, r0, r1, r2, r3]) rfl ?_
          exact post_no HOF.out ((((hbf.setCell (by simp) _).setCell (by simp) _).setCell (by simp) _).setCell (by simp) _)
      · have hlet : letter fs[k] = true := HLT.out fs[k] (by rw [HF.out, ← hgk]; exact List.getElem_mem hkF)
        have hlk : (Instr.lookup 83 (.map (some (rb + 1))) (.int .u8 (fs[k].toNat : Int)) false).run Tryd.prog wr = .ok (.agg #[.int .i64 ((fs[k].toNat : Int) - 48), .func (.func 110) #[] #[], .func (.func 111) #[] #[]]) wr :=
          dd.look_num (hat.out.keep _ HP2.out) fs[k] hlet hsl
        have hdeed := deed_num (F := fs.data.toList) (hat.out.below (W := wr.alloc (.cells #[.int .i64 ((fs[k].toNat : Int) - 48), .func (.func 110) #[] #[], .func (.func 111) #[] #[]] 88)) ((Below.refl _ _).alloc (Nat.le_refl _) _)) hs hkF hF5' (by rw [hgk]; exact hsl)
        rw [hgk] at hdeed
        have HFIN : Hid _ := FIN
        clear hsl hgk hlet FIN
        go_wp2_with fail
        refine hdeed.mono ?_
        rintro e w2 (⟨rfl, hat2⟩ | ⟨rfl, hf⟩)
        · have hl2 : rb + 1 < w2.heap.size := (Array.getElem?_eq_some_iff.1 (hat2.keep _ HP2.out)).1
          have HA2 : Hid _ := hat2
          clear hat2
          go_wp2
          go_roundw
          case rel => exact ⟨k + 1, by omega, by go_num, HA2, hl2⟩
          case measure => simp [intOf]; omega
        · obtain ⟨hokf, hbf, hrf⟩ := HFIN.out w2 hf
          have HOF : Hid (ok s = false) := hokf
          have r0 : w2.cell? ⟨w.heap.size, 0, none⟩ = some (.int .i64 0) := cell_of (o := 0) hrf rfl
          have r1 : w2.cell? ⟨w.heap.size, 1, none⟩ = some (.int .i64 0) := cell_of (o := 1) hrf rfl
          have r2 : w2.cell? ⟨w.heap.size, 2, none⟩ = some (.slice none 0 0) := cell_of (o := 2) hrf rfl
          have r3 : w2.cell? ⟨w.heap.size, 3, none⟩ = some (.slice none 0 0) := cell_of (o := 3) hrf rfl
          have g0 := free_of (o := 0) hrf
          have g1 := free_of (o := 1) hrf
          have g2 := free_of (o := 2) hrf
          have g3 := free_of (o := 3) hrf
          clear hrf hokf hf
          go_wp2
          refine bodyPost_ret (v := .tuple #[.agg #[.int .i64 0, .int .i64 0, .slice none 0 0, .slice none 0 0], .bool false]) (by simp [results, Tryd.results16, go_sem, r0, r1, r2, r3]) rfl ?_
          exact post_no HOF.out ((((hbf.setCell (by simp) _).setCell (by simp) _).setCell (by simp) _).setCell (by simp) _)
    · obtain rfl : k = fs.size := by omega
      clear FIN hkf
      obtain ⟨a', ts, ns, tv, nv, hab, hlp⟩ := hat.out
      obtain ⟨ta, tc, htv⟩ := own_slice hlp.box.ot
      obtain ⟨na, nc, hnv⟩ := own_slice hlp.box.on
      subst htv hnv
      have HE : Hid (run s = (a', ts, ns)) := by
        unfold Hid
        rw [HR.out, ← hlp.run, List.drop_of_length_le (by simp)]
        rfl
      have HLP : Hid _ := hlp
      have hbx := hlp.box
      have e1 : wr.cell? ⟨rb, 1, none⟩ = some (.int .i64 a') := cell_of (o := 1) hbx.blk rfl
      have e2 : wr.cell? ⟨rb, 2, none⟩ = some (.slice ta ts.length tc) := cell_of (o := 2) hbx.blk rfl
      have e3 : wr.cell? ⟨rb, 3, none⟩ = some (.slice na ns.length nc) := cell_of (o := 3) hbx.blk rfl
      have hres := (hbx.keep _ HP1.out).1
      have hbel := hlp.bel
      have g0 := free_of (o := 0) hres
      have g1 := free_of (o := 1) hres
      have g2 := free_of (o := 2) hres
      have g3 := free_of (o := 3) hres
      have r0 : wr.cell? ⟨w.heap.size, 0, none⟩ = some (.int .i64 0) := cell_of (o := 0) hres rfl
      have r1 : wr.cell? ⟨w.heap.size, 1, none⟩ = some (.int .i64 0) := cell_of (o := 1) hres rfl
      have r2 : wr.cell? ⟨w.heap.size, 2, none⟩ = some (.slice none 0 0) := cell_of (o := 2) hres rfl
      have r3 : wr.cell? ⟨w.heap.size, 3, none⟩ = some (.slice none 0 0) := cell_of (o := 3) hres rfl
      clear hres HR HNX hbx hlp hat
      by_cases haz : a' = s.size
      · have HOT : Hid (ok s = true) := by unfold Hid; rw [HOK.out, HE.out]; simp [haz]
        subst haz
        go_wp2
        refine bodyPost_ret (v := .tuple #[.agg #[.int .i64 c, .int .i64 i, .slice ta ts.length tc, .slice na ns.length nc], .bool true]) (by simp [results, Tryd.results16, go_sem, r0, r1, r2, r3]) rfl ?_
        have k1 := (HLP.out.box.keep _ HP1.out).2.2
        rw [← HC.out, ← HI.out]
        exact post_yes HLP.out HE.out HOT.out (own_set (own_set (own_set (own_set HLP.out.box.ot k1.1 _) k1.1 _) k1.1 _) k1.1 _) (own_set (own_set (own_set (own_set HLP.out.box.on k1.2 _) k1.2 _) k1.2 _) k1.2 _) ((((hbel.setCell (by simp) _).setCell (by simp) _).setCell (by simp) _).setCell (by simp) _)
      · have HOF : Hid (ok s = false) := by unfold Hid; rw [HOK.out, HE.out]; simp [haz]
        have hax : (a' == (s.size : Int)) = false := by simpa using haz
        go_wp2
        refine bodyPost_ret (v := .tuple #[.agg #[.int .i64 0, .int .i64 0, .slice none 0 0, .slice none 0 0], .bool false]) (by simp [results, Tryd.results16, go_sem, r0, r1, r2, r3]) rfl ?_
        exact post_no HOF.out ((((hbel.setCell (by simp) _).setCell (by simp) _).setCell (by simp) _).setCell (by simp) _)

theorem impl_get (s : ByteArray) (w : World) (hs : s.size ≤ 1048576) : Calls Tryd.prog 16 #[.string s] w (Post s w) := by
  by_cases ha : at0 s < 0
  · exact impl_no s w hs (.inl ha)
  · cases hk : (fo.known (cls s) (idn s)).isSome with
    | false => exact impl_no s w hs (.inr hk)
    | true => exact impl_yes s w hs (by omega) hk
end Go.Proofs.YtipjhlfajefefaaDoor.gm
