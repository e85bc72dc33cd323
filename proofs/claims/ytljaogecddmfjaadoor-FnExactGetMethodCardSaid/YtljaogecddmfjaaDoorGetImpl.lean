/- The program's GetMethod: it answers as the plain function tells; it lays new memory alone. -/
import Derived.Test.YtljaogecddmfjaaDoorGetSpec
import Derived.Test.YtljaogecddmfjaaDoorReaderWalks
import Derived.Test.YtljaogecddmfjaaDoorDeedsWalks
import Derived.Laws.EntriesVeiled
namespace Go.Proofs.YtljaogecddmfjaaDoor.gm
set_option linter.unusedVariables false
open Go.ChangeShapes Go.WideShapes Go.ChangeAt Go.RowKit Go.Maps Go.Proofs.YtljaogecddmfjaaDoor.ls Go.Proofs.YtljaogecddmfjaaDoor.me Go.Proofs.YtljaogecddmfjaaDoor.mp Go.Proofs.YtljaogecddmfjaaDoor.bx

/-- what is so behind k letters, whatever has been read -/
def Nx (w : World) (s : ByteArray) (rb : Nat) (ps : List (Nat × Obj)) (F : List UInt8) (k : Nat) (wr : World) : Prop :=
  ∃ (a : Int) (ts : List ByteArray) (ns : List Int) (tv nv : Value), (0 ≤ a ∧ a ≤ s.size) ∧ At w s 62 (.string s) (.int .i64 a) rb ps F k a ts ns tv nv wr
/-- there is no such part -/
def Fl (w : World) (s : ByteArray) (ps : List (Nat × Obj)) (F : List UInt8) (w2 : World) : Prop := (rdL s F (at0 s) [] []).1 < 0 ∧ Below w.heap.size w w2 ∧ ∀ q ∈ ps, w2.heap[q.1]? = some q.2

section
variable {w wr W : World} {s : ByteArray} {rb k : Nat} {ps : List (Nat × Obj)} {F : List UInt8}
theorem Nx.below (h : Nx w s rb ps F k wr) (hb : Below wr.heap.size wr W) : Nx w s rb ps F k W := by
  obtain ⟨a, ts, ns, tv, nv, ha, h⟩ := h
  exact ⟨a, ts, ns, tv, nv, ha, h.below hb⟩
theorem Nx.keep (h : Nx w s rb ps F k wr) : ∀ q ∈ ps, wr.heap[q.1]? = some q.2 := by
  obtain ⟨a, ts, ns, tv, nv, ha, h⟩ := h
  exact fun q hq => (h.box.keep q hq).1

theorem deed_text (h : Nx w s rb ps F k wr) (hs : s.size ≤ 1048576) (hk : k < F.length) (hk5 : F.length ≤ 5) (hc : F[k] = 115) :
    Calls Tryd.prog 72 #[.pointer (some ⟨rb, 0, none⟩), .int .i64 0] wr fun e w2 => (e = .returned (.bool true) ∧ Nx w s rb ps F (k + 1) w2) ∨ (e = .returned (.bool false) ∧ Fl w s ps F w2) := by
  obtain ⟨a, ts, ns, tv, nv, ha, h⟩ := h
  have htl := h.tl
  have hnl := h.nl
  refine (rd.text_get s a 0 w.heap.size rb tv nv ts ns ps wr h.box hs (by omega) (by omega) (by omega) h.bel.size).mono ?_
  rintro e w2 (⟨rfl, hb, ⟨tv', hbx⟩, hlo⟩ | ⟨rfl, hb, hbx, hlo⟩)
  · have hbd := behind_bound s a
    refine .inl ⟨rfl, gs.behind s a, ts ++ [gs.text s a], ns, tv', nv, by omega, { box := hbx, run := ?_, tl := by simp; omega, nl := by omega, bel := h.bel.trans hlo }⟩
    rw [← h.run, drop_cons hk, hc, rdL_text ha.1]
  · refine .inr ⟨rfl, ?_, h.bel.trans hlo, fun q hq => (hbx.keep q hq).1⟩
    rw [← h.run, drop_cons hk, hc, rdL_text ha.1, rdL_neg hb]
    exact hb

theorem deed_num (h : Nx w s rb ps F k wr) (hs : s.size ≤ 1048576) (hk : k < F.length) (hk5 : F.length ≤ 5) (hc : F[k] ≠ 115) :
    Calls Tryd.prog 74 #[.pointer (some ⟨rb, 0, none⟩), .int .i64 ((F[k].toNat : Int) - 48)] wr fun e w2 => (e = .returned (.bool true) ∧ Nx w s rb ps F (k + 1) w2) ∨ (e = .returned (.bool false) ∧ Fl w s ps F w2) := by
  obtain ⟨a, ts, ns, tv, nv, ha, h⟩ := h
  have htl := h.tl
  have hnl := h.nl
  refine (rd.num_get s a ((F[k].toNat : Int) - 48) w.heap.size rb tv nv ts ns ps wr h.box hs (by omega) (by omega) (by omega) h.bel.size).mono ?_
  rintro e w2 (⟨rfl, hb, ⟨nv', hbx⟩, hlo⟩ | ⟨rfl, hb, hbx, hlo⟩)
  · have hbd := stop_bound s a ((F[k].toNat : Int) - 48)
    refine .inl ⟨rfl, gi.stop s a ((F[k].toNat : Int) - 48), ts, ns ++ [gi.num s a ((F[k].toNat : Int) - 48)], tv, nv', by omega, { box := hbx, run := ?_, tl := by omega, nl := by simp; omega, bel := h.bel.trans hlo }⟩
    rw [← h.run, drop_cons hk, rdL_num ha.1 hc]
  · refine .inr ⟨rfl, ?_, h.bel.trans hlo, fun q hq => (hbx.keep q hq).1⟩
    rw [← h.run, drop_cons hk, rdL_num ha.1 hc, rdL_neg hb]
    exact hb
end

set_option maxRecDepth 100000 in
set_option maxHeartbeats 1000000 in
theorem impl_no (s : ByteArray) (w : World) (hs : s.size ≤ 1048576) (h : at0 s < 0 ∨ (fo.known (cls s) (idn s)).isSome = false) : Calls Tryd.prog 13 #[.string s] w (Post s w) := by
  have hok : ok s = false := by
    unfold ok
    rcases h with h | h
    · simp [h]
    · simp [h]
  have hf := fun W => fo.impl_form (cls s) (idn s) W (num_wf s 0 2) (num_wf s 2 2)
  have h1 := fun W => gi.impl_get s 0 2 W hs (by decide) (by decide)
  have h2 := fun W => gi.impl_get s (gi.stop s 0 2) 2 W hs (by have := stop_bound s 0 2; omega) (by have := stop_bound s 0 2; omega)
  simp only [(second s).1, (second s).2] at h2
  change ∀ W, Calls _ _ _ W fun e w' => e = .returned (.tuple #[.int .i64 (cls s), .int .i64 (gi.stop s 0 2)]) ∧ _ at h1
  generalize (fo.known (cls s) (idn s)).isSome = kn at h hf
  generalize fo.letters (cls s) (idn s) = fs at hf
  generalize cls s = c at h1 hf
  generalize idn s = i at h2 hf
  generalize at0 s = a at h2 h
  generalize gi.stop s 0 2 = b at h1 h2
  have HOK : Hid (ok s = false) := hok
  clear hok
  go_enter Tryd.func13, Tryd.ntmps13
  by_cases ha : a < 0
  · clear h
    go_wp2_with (first | (go_at_call 36; first | (refine (h1 _).mono ?_; rintro e w0 ⟨rfl, hw0⟩; obtain rfl := hw0.symm; clear h1) | (refine (h2 _).mono ?_; rintro e w0 ⟨rfl, hw0⟩; obtain rfl := hw0.symm)) | (go_at_call 15; refine (hf _).mono ?_; rintro e w1 ⟨rfl, hb1⟩; obtain ⟨hc1, hf1⟩ := bcell hb1))
    refine bodyPost_ret (v := .tuple #[.agg #[.int .i64 0, .int .i64 0, .slice none 0 0, .slice none 0 0], .bool false]) (by simp [results, Tryd.results13, go_sem, hc1]) rfl ?_
    have hbw : Below w.heap.size w w1 := ((Below.refl _ _).alloc (Nat.le_refl _) _).trans (hb1.mono (by simp))
    exact post_no HOK.out ((((hbw.setCell (by simp) _).setCell (by simp) _).setCell (by simp) _).setCell (by simp) _)
  · obtain rfl : kn = false := h.resolve_left ha
    clear h
    go_wp2_with (first | (go_at_call 36; first | (refine (h1 _).mono ?_; rintro e w0 ⟨rfl, hw0⟩; obtain rfl := hw0.symm; clear h1) | (refine (h2 _).mono ?_; rintro e w0 ⟨rfl, hw0⟩; obtain rfl := hw0.symm)) | (go_at_call 15; refine (hf _).mono ?_; rintro e w1 ⟨rfl, hb1⟩; obtain ⟨hc1, hf1⟩ := bcell hb1))
    refine bodyPost_ret (v := .tuple #[.agg #[.int .i64 0, .int .i64 0, .slice none 0 0, .slice none 0 0], .bool false]) (by simp [results, Tryd.results13, go_sem, hc1]) rfl ?_
    have hbw : Below w.heap.size w w1 := ((Below.refl _ _).alloc (Nat.le_refl _) _).trans (hb1.mono (by simp))
    exact post_no HOK.out ((((hbw.setCell (by simp) _).setCell (by simp) _).setCell (by simp) _).setCell (by simp) _)

set_option maxRecDepth 100000 in
set_option maxHeartbeats 2000000 in
theorem impl_yes (s : ByteArray) (w : World) (hs : s.size ≤ 1048576) (ha : 0 ≤ at0 s) (hk : (fo.known (cls s) (idn s)).isSome = true) : Calls Tryd.prog 13 #[.string s] w (Post s w) := by
  have hf := fun W => fo.impl_form (cls s) (idn s) W (num_wf s 0 2) (num_wf s 2 2)
  simp only [hk] at hf
  have h1 := fun W => gi.impl_get s 0 2 W hs (by decide) (by decide)
  have h2 := fun W => gi.impl_get s (gi.stop s 0 2) 2 W hs (by have := stop_bound s 0 2; omega) (by have := stop_bound s 0 2; omega)
  simp only [(second s).1, (second s).2] at h2
  change ∀ W, Calls _ _ _ W fun e w' => e = .returned (.tuple #[.int .i64 (cls s), .int .i64 (gi.stop s 0 2)]) ∧ _ at h1
  have HOK : Hid (ok s = decide ((run s).1 = s.size)) := by
    unfold Hid ok
    have : ¬ at0 s < 0 := by omega
    simp [hk, this]
  have hF5 := F_length (cls s) (idn s)
  have HLT : Hid (∀ x ∈ F (cls s) (idn s), letter x = true) := letters_ok _ _
  obtain ⟨fs, hfs⟩ : ∃ fs, fo.letters (cls s) (idn s) = fs := ⟨_, rfl⟩
  have HF : Hid (F (cls s) (idn s) = fs.data.toList) := by unfold Hid F; rw [hfs]
  have hfl : fs.size ≤ 5 := by rw [HF.out] at hF5; simpa using hF5
  simp only [hfs] at hf
  have HR : Hid (run s = rdL s fs.data.toList (at0 s) [] []) := by unfold Hid run; rw [HF.out]
  have ha2 : at0 s ≤ s.size := by have := stop_bound s 2 2; unfold at0; omega
  obtain ⟨c, hc⟩ : ∃ c, cls s = c := ⟨_, rfl⟩
  obtain ⟨i, hi⟩ : ∃ i, idn s = i := ⟨_, rfl⟩
  obtain ⟨a, haa⟩ : ∃ a, at0 s = a := ⟨_, rfl⟩
  have HC : Hid (cls s = c) := hc
  have HI : Hid (idn s = i) := hi
  have HA : Hid (at0 s = a) := haa
  rw [hc, hi] at HLT HF
  simp only [hc] at h1 hf
  simp only [hi] at h2 hf
  simp only [haa] at h2
  rw [haa] at ha ha2
  generalize gi.stop s 0 2 = b at h1 h2
  clear hk hF5 hfs hc hi haa
  go_enter Tryd.func13, Tryd.ntmps13
  go_wp2_with (first | (go_at_call 36; first | (refine (h1 _).mono ?_; rintro e w0 ⟨rfl, hw0⟩; obtain rfl := hw0.symm; clear h1) | (refine (h2 _).mono ?_; rintro e w0 ⟨rfl, hw0⟩; obtain rfl := hw0.symm)) | (go_at_call 15; refine (hf _).mono ?_; rintro e w1 ⟨rfl, hb1⟩) | (go_at_call 37; refine (dd.impl_deeds _).mono ?_; rintro e _ ⟨rfl, rfl⟩))
  have hbw : Below w.heap.size w w1 := ((Below.refl _ _).alloc (Nat.le_refl _) _).trans (hb1.mono (by simp))
  have hlw : w.heap.size < w1.heap.size := by have := hb1.size; simp at this; omega
  have hres0 : w1.heap[w.heap.size]? = some (.cells zeros 27 (0, 0)) := by rw [hb1.block _ (by simp)]; exact heap_alloc_new w _
  clear hb1 hf h2
  obtain ⟨ps, hps⟩ : ∃ ps, [(w.heap.size, Obj.cells zeros 27 (0, 0)), (w1.heap.size + 1, ml.mapOf dd.deeds)] = ps := ⟨_, rfl⟩
  have HNX : Hid (Nx w s w1.heap.size ps fs.data.toList 0 ((w1.alloc (.cells #[.string s, .int .i64 a, .slice none 0 0, .slice none 0 0] 62)).alloc (ml.mapOf dd.deeds))) := by
    have e1 : (w1.alloc (.cells #[.string s, .int .i64 a, .slice none 0 0, .slice none 0 0] 62)).heap.size = w1.heap.size + 1 := by simp
    have hn := heap_alloc_new (w1.alloc (.cells #[.string s, .int .i64 a, .slice none 0 0, .slice none 0 0] 62)) (ml.mapOf dd.deeds)
    rw [e1] at hn
    have ho := heap_alloc_old (w1.alloc (.cells #[.string s, .int .i64 a, .slice none 0 0, .slice none 0 0] 62)) (r := w1.heap.size) (ml.mapOf dd.deeds) (by omega)
    rw [heap_alloc_new w1] at ho
    have hz := heap_alloc_old (w1.alloc (.cells #[.string s, .int .i64 a, .slice none 0 0, .slice none 0 0] 62)) (r := w.heap.size) (ml.mapOf dd.deeds) (by omega)
    rw [heap_alloc_old w1 _ hlw, hres0] at hz
    refine ⟨a, [], [], .slice none 0 0, .slice none 0 0, ⟨ha, ha2⟩, ?_⟩
    exact { box := ⟨ho, World.ownsRow_nil _ _ _ _, World.ownsRow_nil _ _ _ _, by simp [Value.ownBlock], by simp [Value.ownBlock], by simp [Value.ownBlock], by omega, by
              intro q hq
              rw [← hps] at hq
              simp at hq
              rcases hq with rfl | rfl
              · exact ⟨hz, by simp; omega, by simp [Value.ownBlock], by simp [Value.ownBlock]⟩
              · exact ⟨hn, by simp, by simp [Value.ownBlock], by simp [Value.ownBlock]⟩⟩
            run := by rw [HA.out]; rfl
            tl := Nat.zero_le _
            nl := Nat.zero_le _
            bel := (hbw.alloc (by omega) _).alloc (by simp; omega) _ }
  have hm1 : (w.heap.size, Obj.cells zeros 27 (0, 0)) ∈ ps := by rw [← hps]; simp
  have hm2 : (w1.heap.size + 1, ml.mapOf dd.deeds) ∈ ps := by rw [← hps]; simp
  have HP1 : Hid _ := hm1
  have HP2 : Hid _ := hm2
  obtain ⟨rb, hrb⟩ : ∃ rb, w1.heap.size = rb := ⟨_, rfl⟩
  rw [hrb] at HNX HP2 hlw ⊢
  clear hps hres0 hm1 hm2 hbw
  go_loopw [43] (fun sk wr => ∃ k : Nat, k ≤ fs.size ∧ sk = .int .i64 k ∧ Hid (Nx w s rb ps fs.data.toList k wr) ∧ rb + 1 < wr.heap.size) (fun sk _ => fs.size - (intOf sk).toNat)
  case atStart => exact ⟨0, by omega, rfl, HNX, by simp; omega⟩
  case round =>
    obtain ⟨k, hk, rfl, hat, hlr⟩ := hrel
    have FIN : ∀ w2, Fl w s ps fs.data.toList w2 → ok s = false ∧ Below w.heap.size w w2 ∧ w2.heap[w.heap.size]? = some (.cells zeros 27 (0, 0)) := fun w2 hf => by
      refine ⟨?_, hf.2.1, hf.2.2 _ HP1.out⟩
      have := hf.1
      rw [HOK.out, HR.out]
      simp
      omega
    by_cases hkf : k < fs.size
    · have hkF : k < fs.data.toList.length := by simpa using hkf
      have hgk : fs.data.toList[k] = fs[k] := rfl
      have hF5' : fs.data.toList.length ≤ 5 := by simpa using hfl
      by_cases hsl : fs[k] = 115
      · have hlk : (Instr.lookup 63 (.map (some (rb + 1))) (.int .u8 (fs[k].toNat : Int)) false).run Tryd.prog wr = .ok (.agg #[.int .i64 0, .func (.func 71) #[] #[], .func (.func 72) #[] #[]]) wr := by
          rw [hsl]
          exact dd.look_text (hat.out.keep _ HP2.out)
        have hdeed := deed_text (F := fs.data.toList) (hat.out.below (W := wr.alloc (.cells #[.int .i64 0, .func (.func 71) #[] #[], .func (.func 72) #[] #[]] 68)) ((Below.refl _ _).alloc (Nat.le_refl _) _)) hs hkF hF5' (hgk.trans hsl)
        have HFIN : Hid _ := FIN
        clear hsl hgk FIN
        go_wp2_with fail
        refine hdeed.mono ?_
        rintro e w2 (⟨rfl, hat2⟩ | ⟨rfl, hf⟩)
        · have hl2 : rb + 1 < w2.heap.size := (Array.getElem?_eq_some_iff.1 (hat2.keep _ HP2.out)).1
          have HA2 : Hid _ := hat2
          clear hat2
          go_wp2
          go_roundw
          case rel => exact ⟨k + 1, by omega, by go_num, HA2, hl2⟩
          case measure => simp [intOf]; omega
        · obtain ⟨hokf, hbf, hrf⟩ := HFIN.out w2 hf
          have HOF : Hid (ok s = false) := hokf
          have r0 : w2.cell? ⟨w.heap.size, 0, none⟩ = some (.int .i64 0) := cell_of (o := 0) hrf rfl
          have r1 : w2.cell? ⟨w.heap.size, 1, none⟩ = some (.int .i64 0) := cell_of (o := 1) hrf rfl
          have r2 : w2.cell? ⟨w.heap.size, 2, none⟩ = some (.slice none 0 0) := cell_of (o := 2) hrf rfl
          have r3 : w2.cell? ⟨w.heap.size, 3, none⟩ = some (.slice none 0 0) := cell_of (o := 3) hrf rfl
          have g0 := free_of (o := 0) hrf
          have g1 := free_of (o := 1) hrf
          have g2 := free_of (o := 2) hrf
          have g3 := free_of (o := 3) hrf
          clear hrf hokf hf
          go_wp2
          refine bodyPost_ret (v := .tuple #[.agg #[.int .i64 0, .int .i64 0, .slice none 0 0, .slice none 0 0], .bool false]) (by simp [results, Tryd.results13, go_sem, r0, r1, r2, r3]) rfl ?_
          exact post_no HOF.out ((((hbf.setCell (by simp) _).setCell (by simp) _).setCell (by simp) _).setCell (by simp) _)
      · have hlet : letter fs[k] = true := HLT.out fs[k] (by rw [HF.out, ← hgk]; exact List.getElem_mem hkF)
        have hlk : (Instr.lookup 63 (.map (some (rb + 1))) (.int .u8 (fs[k].toNat : Int)) false).run Tryd.prog wr = .ok (.agg #[.int .i64 ((fs[k].toNat : Int) - 48), .func (.func 73) #[] #[], .func (.func 74) #[] #[]]) wr :=
          dd.look_num (hat.out.keep _ HP2.out) fs[k] hlet hsl
        have hdeed := deed_num (F := fs.data.toList) (hat.out.below (W := wr.alloc (.cells #[.int .i64 ((fs[k].toNat : Int) - 48), .func (.func 73) #[] #[], .func (.func 74) #[] #[]] 68)) ((Below.refl _ _).alloc (Nat.le_refl _) _)) hs hkF hF5' (by rw [hgk]; exact hsl)
        rw [hgk] at hdeed
        have HFIN : Hid _ := FIN
        clear hsl hgk hlet FIN
        go_wp2_with fail
        refine hdeed.mono ?_
        rintro e w2 (⟨rfl, hat2⟩ | ⟨rfl, hf⟩)
        · have hl2 : rb + 1 < w2.heap.size := (Array.getElem?_eq_some_iff.1 (hat2.keep _ HP2.out)).1
          have HA2 : Hid _ := hat2
          clear hat2
          go_wp2
          go_roundw
          case rel => exact ⟨k + 1, by omega, by go_num, HA2, hl2⟩
          case measure => simp [intOf]; omega
        · obtain ⟨hokf, hbf, hrf⟩ := HFIN.out w2 hf
          have HOF : Hid (ok s = false) := hokf
          have r0 : w2.cell? ⟨w.heap.size, 0, none⟩ = some (.int .i64 0) := cell_of (o := 0) hrf rfl
          have r1 : w2.cell? ⟨w.heap.size, 1, none⟩ = some (.int .i64 0) := cell_of (o := 1) hrf rfl
          have r2 : w2.cell? ⟨w.heap.size, 2, none⟩ = some (.slice none 0 0) := cell_of (o := 2) hrf rfl
          have r3 : w2.cell? ⟨w.heap.size, 3, none⟩ = some (.slice none 0 0) := cell_of (o := 3) hrf rfl
          have g0 := free_of (o := 0) hrf
          have g1 := free_of (o := 1) hrf
          have g2 := free_of (o := 2) hrf
          have g3 := free_of (o := 3) hrf
          clear hrf hokf hf
          go_wp2
          refine bodyPost_ret (v := .tuple #[.agg #[.int .i64 0, .int .i64 0, .slice none 0 0, .slice none 0 0], .bool false]) (by simp [results, Tryd.results13, go_sem, r0, r1, r2, r3]) rfl ?_
          exact post_no HOF.out ((((hbf.setCell (by simp) _).setCell (by simp) _).setCell (by simp) _).setCell (by simp) _)
    · obtain rfl : k = fs.size := by omega
      clear FIN hkf
      obtain ⟨a', ts, ns, tv, nv, hab, hlp⟩ := hat.out
      obtain ⟨ta, tc, htv⟩ := own_slice hlp.box.ot
      obtain ⟨na, nc, hnv⟩ := own_slice hlp.box.on
      subst htv hnv
      have HE : Hid (run s = (a', ts, ns)) := by
        unfold Hid
        rw [HR.out, ← hlp.run, List.drop_of_length_le (by simp)]
        rfl
      have HLP : Hid _ := hlp
      have hbx := hlp.box
      have e1 : wr.cell? ⟨rb, 1, none⟩ = some (.int .i64 a') := cell_of (o := 1) hbx.blk rfl
      have e2 : wr.cell? ⟨rb, 2, none⟩ = some (.slice ta ts.length tc) := cell_of (o := 2) hbx.blk rfl
      have e3 : wr.cell? ⟨rb, 3, none⟩ = some (.slice na ns.length nc) := cell_of (o := 3) hbx.blk rfl
      have hres := (hbx.keep _ HP1.out).1
      have hbel := hlp.bel
      have g0 := free_of (o := 0) hres
      have g1 := free_of (o := 1) hres
      have g2 := free_of (o := 2) hres
      have g3 := free_of (o := 3) hres
      have r0 : wr.cell? ⟨w.heap.size, 0, none⟩ = some (.int .i64 0) := cell_of (o := 0) hres rfl
      have r1 : wr.cell? ⟨w.heap.size, 1, none⟩ = some (.int .i64 0) := cell_of (o := 1) hres rfl
      have r2 : wr.cell? ⟨w.heap.size, 2, none⟩ = some (.slice none 0 0) := cell_of (o := 2) hres rfl
      have r3 : wr.cell? ⟨w.heap.size, 3, none⟩ = some (.slice none 0 0) := cell_of (o := 3) hres rfl
      clear hres HR HNX hbx hlp hat
      by_cases haz : a' = s.size
      · have HOT : Hid (ok s = true) := by unfold Hid; rw [HOK.out, HE.out]; simp [haz]
        subst haz
        go_wp2
        refine bodyPost_ret (v := .tuple #[.agg #[.int .i64 c, .int .i64 i, .slice ta ts.length tc, .slice na ns.length nc], .bool true]) (by simp [results, Tryd.results13, go_sem, r0, r1, r2, r3]) rfl ?_
        have k1 := (HLP.out.box.keep _ HP1.out).2.2
        rw [← HC.out, ← HI.out]
        exact post_yes HLP.out HE.out HOT.out (own_set (own_set (own_set (own_set HLP.out.box.ot k1.1 _) k1.1 _) k1.1 _) k1.1 _) (own_set (own_set (own_set (own_set HLP.out.box.on k1.2 _) k1.2 _) k1.2 _) k1.2 _) ((((hbel.setCell (by simp) _).setCell (by simp) _).setCell (by simp) _).setCell (by simp) _)
      · have HOF : Hid (ok s = false) := by unfold Hid; rw [HOK.out, HE.out]; simp [haz]
        have hax : (a' == (s.size : Int)) = false := by simpa using haz
        go_wp2
        refine bodyPost_ret (v := .tuple #[.agg #[.int .i64 0, .int .i64 0, .slice none 0 0, .slice none 0 0], .bool false]) (by simp [results, Tryd.results13, go_sem, r0, r1, r2, r3]) rfl ?_
        exact post_no HOF.out ((((hbel.setCell (by simp) _).setCell (by simp) _).setCell (by simp) _).setCell (by simp) _)

theorem impl_get (s : ByteArray) (w : World) (hs : s.size ≤ 1048576) : Calls Tryd.prog 13 #[.string s] w (Post s w) := by
  by_cases ha : at0 s < 0
  · exact impl_no s w hs (.inl ha)
  · cases hk : (fo.known (cls s) (idn s)).isSome with
    | false => exact impl_no s w hs (.inr hk)
    | true => exact impl_yes s w hs (by omega) hk
end Go.Proofs.YtljaogecddmfjaaDoor.gm
