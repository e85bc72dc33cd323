/- The specification's PutBatch answers the bytes of a batch; new memory alone. -/
import Derived.Test.YtjnfljipomjcjaaGreatDoorPutBatchPure
import Derived.Test.YtjnfljipomjcjaaGreatDoorTextApp
namespace Go.Proofs.YtjnfljipomjcjaaGreatDoor.pbs
open Go.ChangeShapes Go.WideShapes Go.ChangeAt Go.RowKit Go.Proofs.YtjnfljipomjcjaaGreatDoor.fl Go.Proofs.YtjnfljipomjcjaaGreatDoor.bo Go.Proofs.YtjnfljipomjcjaaGreatDoor.pb
set_option linter.unusedVariables false

theorem spec_no (l : List flP.Pr) (a : Option Addr) (cap : Nat) (w : World) (F : bs.Fit l) (hok : okb l = false) (hS : Row flP.c 3 w w.heap.size a l) :
    Calls Tryz.prog 13 #[.slice a l.length cap] w fun e w' => e = .returned (.string (out l)) ∧ Below w.heap.size w w' := by
  have h1 := spec_okb l a cap w F hS
  rw [hok] at h1
  have HO : Hid (out l = ⟨#[]⟩) := by unfold Hid out; rw [hok]; rfl
  clear hok hS
  go_enter Tryz.func13, Tryz.ntmps13
  go_wp2_with (go_at_call 17; refine h1.mono ?_; rintro e w1 ⟨rfl, hb1⟩)
  go_ret
  exact ⟨by rw [HO.out]; rfl, hb1⟩

def ws (u3 : Value) (b off n cap k : Nat) (pk pv : ByteArray) (g : txa.G) : List (Nat × Value) :=
  [(33, u3), (34, .slice (some ⟨b, off, none⟩) n cap), (35, .int .i64 k), (36, .pointer (some ⟨b, off + k * 3, none⟩)), (37, .pointer (some ⟨b, off + k * 3, none⟩)), (38, .string pk), (39, .string (ps.out pk)), (40, .string (⟨#[0]⟩ ++ ps.out pk)),
   (41, .slice (some ⟨b, off, none⟩) n cap), (42, .int .i64 k), (43, .pointer (some ⟨b, off + k * 3, none⟩)), (44, .pointer (some ⟨b, off + k * 3 + 1, none⟩)), (45, .string pv), (46, .string (pl.out pv)), (47, .string (⟨#[0]⟩ ++ ps.out pk ++ pl.out pv)), (48, g.cv), (49, g.av)]

set_option maxRecDepth 100000 in
set_option maxHeartbeats 1000000 in
theorem spec_yes (l : List flP.Pr) (a : Option Addr) (cap : Nat) (w : World) (F : bs.Fit l) (hok : okb l = true) (hS : Row flP.c 3 w w.heap.size a l) :
    Calls Tryz.prog 13 #[.slice a l.length cap] w fun e w' => e = .returned (.string (out l)) ∧ Below w.heap.size w w' := by
  have h1 := spec_okb l a cap w F hS
  rw [hok] at h1
  have HO : Hid (out l = pi.text l.length 1 ++ all l) := by unfold Hid out; rw [hok]; rfl
  have hlen := ((okb_iff l).1 hok).1
  have HK : Hid (∀ (i : Nat) e, l[i]? = some e → okP e) := ((okb_iff l).1 hok).2
  have HS : Hid (Row flP.c 3 w w.heap.size a l) := hS
  have hts := pi.text_size l.length 1
  clear hok hS F
  go_enter Tryz.func13, Tryz.ntmps13
  go_wp2_with (go_at_call 17; fail)
  refine h1.mono ?_
  rintro e w1 ⟨rfl, hb1⟩
  clear h1
  go_wp2_with (go_at_call 42; fail)
  refine (pi.spec_put (l.length : Int) 1 w1 (by omega)).mono ?_
  rintro e w2 ⟨rfl, hb2⟩
  obtain ⟨W3, C3, hcv, hBR, _, hb3, hsz3⟩ := br.conv w2 (pi.text l.length 1) (by omega)
  have hB2 : Below w.heap.size w w2 := hb1.trans (hb2.mono hb1.size)
  have hB3 : Below w.heap.size w W3 := hB2.trans (hb3.mono hB2.size)
  have HB : Hid (br.BR W3 w.heap.size (.slice (some ⟨w2.heap.size, 0, none⟩) (pi.text l.length 1).size C3) (pi.text l.length 1 ++ all (l.take 0))) := by
    unfold Hid
    rw [List.take_zero, all, app_nil]
    exact hBR.mono hB2.size
  clear hBR
  go_wp2
  clear hcv
  go_loopw [3, 4] (fun v x wr => ∃ k : Nat, k ≤ l.length ∧ x = .int .i64 k ∧ Hid (br.BR wr w.heap.size v (pi.text l.length 1 ++ all (l.take k))) ∧ Below w.heap.size w wr) (fun _ x _ => l.length - (intOf x).toNat)
  case atStart => exact ⟨0, Nat.zero_le _, rfl, HB, hB3⟩
  case round =>
    obtain ⟨k, hk, rfl, hrow, hbel⟩ := hrel
    have hbs := hbel.size
    by_cases hkl : k < l.length
    · rcases HS.out with h0 | ⟨b, off, rfl, hlt, hc⟩
      · rw [h0] at hkl; simp at hkl
      have HG : Hid (l[k]? = some l[k]) := List.getElem?_eq_getElem hkl
      obtain ⟨⟨pk, pv, pg⟩, he⟩ : ∃ e, l[k] = e := ⟨_, rfl⟩
      rw [he] at HG
      have hokp := HK.out k _ HG.out
      have c0 : wr.cell? ⟨b, off + k * 3, none⟩ = some (.string pk) := (hbel.cell (p := ⟨b, off + k * 3, none⟩) hlt).trans (hc k _ HG.out 0 _ rfl)
      have c1 : wr.cell? ⟨b, off + k * 3 + 1, none⟩ = some (.string pv) := (hbel.cell (p := ⟨b, off + k * 3 + 1, none⟩) hlt).trans (hc k _ HG.out 1 _ rfl)
      have c2 : wr.cell? ⟨b, off + k * 3 + 2, none⟩ = some (.bool pg) := (hbel.cell (p := ⟨b, off + k * 3 + 2, none⟩) hlt).trans (hc k _ HG.out 2 _ rfl)
      have HN : Hid (pi.text l.length 1 ++ all (l.take (k + 1)) = (pi.text l.length 1 ++ all (l.take k)) ++ one ⟨pk, pv, pg⟩) := by
        unfold Hid
        rw [all_next HG.out, ByteArray.append_assoc]
      have hsz := all_take HK.out k hk
      have hone := one_size hokp
      obtain ⟨hk1, hk2, hv1, _⟩ := hokp
      have hk2 : pk.size ≤ 100 := hk2
      have hv1 : pv.size ≤ 4000 := hv1
      have hrs : (pi.text l.length 1 ++ all (l.take k)).size ≤ 8 + 4200 * k := by rw [ByteArray.size_append]; omega
      obtain ⟨so, hso⟩ : ∃ so, pi.text l.length 1 ++ all (l.take k) = so := ⟨_, rfl⟩
      rw [hso] at hrow hrs HN
      have hps := ps.spec_putShort pk wr (by omega)
      have hp1 := short_size (k := pk) (by omega)
      have hp2 := long_size (v := pv) (by omega)
      have hltr : b < wr.heap.size := Nat.lt_of_lt_of_le hlt hbs
      have i2 : (k : Int) < (l.length : Int) := by omega
      clear hc he hso hsz hk1
      cases pg with
      | true =>
        have hon : one ⟨pk, pv, true⟩ = ⟨#[1]⟩ ++ ps.out pk := rfl
        rw [hon] at HN hone
        clear hon
        go_wp2_with (go_at_call 43; fail)
        refine hps.mono ?_
        rintro e w4 ⟨rfl, hb4⟩
        clear hps
        obtain ⟨W5, C5, hcv, _, hcl5, hb5, _⟩ := br.conv w4 (⟨#[1]⟩ ++ ps.out pk) (by omega)
        have hB4 : Below w.heap.size w w4 := hbel.trans (hb4.mono hbs)
        have hB5 : Below w.heap.size w W5 := hB4.trans (hb5.mono hB4.size)
        obtain ⟨v', w6, hrun, hBR6, hb6⟩ := br.run_app W5 w.heap.size 22 u3 so (⟨#[1]⟩ ++ ps.out pk) ⟨w4.heap.size, 0, none⟩ C5 ((hrow.out.below hb4).below hb5) (fun j y hy => by rw [br.addr_at, Nat.zero_add]; exact hcl5 j y hy) (by omega) hB5.size
        obtain ⟨n5, hn5⟩ : ∃ n, (⟨#[1]⟩ ++ ps.out pk : ByteArray).size = n := ⟨_, rfl⟩
        rw [hn5] at hcv hrun
        have HR6 : Hid (br.BR w6 w.heap.size v' (pi.text l.length 1 ++ all (l.take (k + 1)))) := by unfold Hid; rw [HN.out]; exact hBR6
        have hB6 := hB5.trans hb6
        clear hBR6 hrow hcl5 c0 c1 c2 hn5 hone
        go_wp2_with (at_builtin; refine br.wpList_append_run rfl _ _ _ _ rfl _ _ _ rfl rfl hrun ?_)
        go_roundw
        case rel => exact ⟨k + 1, by omega, by go_num, HR6, hB6⟩
        case measure => simp [intOf]; omega
      | false =>
        have hon : one ⟨pk, pv, false⟩ = ⟨#[0]⟩ ++ ps.out pk ++ pl.out pv := rfl
        rw [hon] at HN hone
        clear hon
        have i9 : ¬ ((l.length : Int) ≤ (k : Int)) := by omega
        go_wp2_with (go_at_call 43; fail)
        refine rv.region_vsets 3 (ws u3 b off l.length cap k pk pv) (fun g => g.fv) [33, 34, 35, 36, 37, 38, 39, 40, 41, 42, 43, 44, 45, 46, 47, 48, 49] (txa.C ⟨w.heap.size, wr, u3, so, ⟨#[0]⟩ ++ ps.out pk ++ pl.out pv⟩ 15) ⟨.slice none 0 0, .slice none 0 0, .slice none 0 0⟩ (by kernel_rfl) (by kernel_rfl) (fun _ => rfl) (by kernel_rfl) (by kernel_rfl) (txa.start _ _ _ hbs) ?each ?fin
        case each =>
          refine ⟨txa.quiet (by decide) (by simp) (u3) (by rintro s _ ⟨⟩; exact dk.sets_on _ (by simp) _ rfl) (fun s W h => by simp [execOp, go_sem, Act.eval, dk.sets_get, ws, List.lookup]), ?_⟩
          refine ⟨txa.quiet (by decide) (by simp) (.slice (some ⟨b, off, none⟩) l.length cap) (by rintro s _ ⟨⟩; exact dk.sets_on _ (by simp) _ rfl) (fun s W h => by simp [execOp, go_sem, Act.eval, dk.sets_get, ws, List.lookup]), ?_⟩
          refine ⟨txa.quiet (by decide) (by simp) (.int .i64 k) (by rintro s _ ⟨⟩; exact dk.sets_on _ (by simp) _ rfl) (fun s W h => by simp [execOp, go_sem, Act.eval, dk.sets_get, ws, List.lookup]), ?_⟩
          refine ⟨txa.quiet (by decide) (by simp) (.pointer (some ⟨b, off + k * 3, none⟩)) (by rintro s _ ⟨⟩; exact dk.sets_on _ (by simp) _ rfl) (fun s W h => by simp [execOp, go_sem, Act.eval, dk.sets_get, ws, List.lookup, i9]), ?_⟩
          refine ⟨txa.quiet (by decide) (by simp) (.pointer (some ⟨b, off + k * 3, none⟩)) (by rintro s _ ⟨⟩; exact dk.sets_on _ (by simp) _ rfl) (fun s W h => by simp [execOp, go_sem, Act.eval, dk.sets_get, ws, List.lookup]), ?_⟩
          refine ⟨txa.quiet (by decide) (by simp) (.string pk) (by rintro s _ ⟨⟩; exact dk.sets_on _ (by simp) _ rfl) (fun s W h => by have cc : W.cell? ⟨b, off + k * 3, none⟩ = some (.string pk) := (Below.cell h (p := ⟨b, off + k * 3, none⟩) hlt).trans c0; simp [execOp, go_sem, Act.eval, dk.sets_get, ws, List.lookup, cc]), ?_⟩
          refine ⟨txa.call hbs (by decide) (by simp) 43 #[.string pk] (.string (ps.out pk)) (by rintro s _ ⟨⟩; exact dk.sets_on _ (by simp) _ rfl) (fun s W h => by simp [go_sem, Act.eval, dk.sets_get, ws, List.lookup]) (fun W => ps.spec_putShort pk W (by omega)), ?_⟩
          refine ⟨txa.quiet (by decide) (by simp) (.string (⟨#[0]⟩ ++ ps.out pk)) (by rintro s _ ⟨⟩; exact dk.sets_on _ (by simp) _ rfl) (fun s W h => by simp [execOp, go_sem, Act.eval, dk.sets_get, ws, List.lookup]; omega), ?_⟩
          refine ⟨txa.quiet (by decide) (by simp) (.slice (some ⟨b, off, none⟩) l.length cap) (by rintro s _ ⟨⟩; exact dk.sets_on _ (by simp) _ rfl) (fun s W h => by simp [execOp, go_sem, Act.eval, dk.sets_get, ws, List.lookup]), ?_⟩
          refine ⟨txa.quiet (by decide) (by simp) (.int .i64 k) (by rintro s _ ⟨⟩; exact dk.sets_on _ (by simp) _ rfl) (fun s W h => by simp [execOp, go_sem, Act.eval, dk.sets_get, ws, List.lookup]), ?_⟩
          refine ⟨txa.quiet (by decide) (by simp) (.pointer (some ⟨b, off + k * 3, none⟩)) (by rintro s _ ⟨⟩; exact dk.sets_on _ (by simp) _ rfl) (fun s W h => by simp [execOp, go_sem, Act.eval, dk.sets_get, ws, List.lookup, i9]), ?_⟩
          refine ⟨txa.quiet (by decide) (by simp) (.pointer (some ⟨b, off + k * 3 + 1, none⟩)) (by rintro s _ ⟨⟩; exact dk.sets_on _ (by simp) _ rfl) (fun s W h => by simp [execOp, go_sem, Act.eval, dk.sets_get, ws, List.lookup]), ?_⟩
          refine ⟨txa.quiet (by decide) (by simp) (.string pv) (by rintro s _ ⟨⟩; exact dk.sets_on _ (by simp) _ rfl) (fun s W h => by have cc : W.cell? ⟨b, off + k * 3 + 1, none⟩ = some (.string pv) := (Below.cell h (p := ⟨b, off + k * 3 + 1, none⟩) hlt).trans c1; simp [execOp, go_sem, Act.eval, dk.sets_get, ws, List.lookup, cc]), ?_⟩
          refine ⟨txa.call hbs (by decide) (by simp) 44 #[.string pv] (.string (pl.out pv)) (by rintro s _ ⟨⟩; exact dk.sets_on _ (by simp) _ rfl) (fun s W h => by simp [go_sem, Act.eval, dk.sets_get, ws, List.lookup]) (fun W => pl.spec_putLong pv W (by omega)), ?_⟩
          refine ⟨txa.quiet (by decide) (by simp) (.string (⟨#[0]⟩ ++ ps.out pk ++ pl.out pv)) (by rintro s _ ⟨⟩; exact dk.sets_on _ (by simp) _ rfl) (fun s W h => by simp [execOp, go_sem, Act.eval, dk.sets_get, ws, List.lookup]; omega), ?_⟩
          refine ⟨txa.st0 (t := 48) (s1 := 47) (idx := 15) hbs (by show (⟨#[0]⟩ ++ ps.out pk ++ pl.out pv : ByteArray).size ≤ 1048576; omega) rfl rfl (by decide) ⟨by simp, by simp⟩ (fun g => rfl) (fun g => rfl) (fun g => rfl) (fun g v => rfl), ?_⟩
          refine ⟨txa.st1 (t := 49) (s1 := 33) (s2 := 48) (idx := 16) hbs (by show so.size + (⟨#[0]⟩ ++ ps.out pk ++ pl.out pv : ByteArray).size ≤ 1048576; omega) hrow.out rfl rfl (by decide) ⟨by simp, by simp, by simp⟩ (fun g => rfl) (fun g => rfl) (fun g => rfl) (fun g => rfl) (fun g v => rfl) ⟨⟨15, .data⟩, by simp, rfl, rfl⟩, ?_⟩
          exact ⟨txa.st2 (s1 := 49) rfl rfl ⟨by simp, by simp⟩ (fun g => rfl) (fun g v => rfl) ⟨⟨16, .data⟩, by simp, rfl, rfl⟩, trivial⟩
        case fin =>
          intro s L X3 hL hC
          obtain ⟨hbl, hfv, hBR6⟩ := txa.done hC (N := 18) (by decide) hL
          have hbl2 : Below w.heap.size wr X3 := hbl
          have HR6 : Hid (br.BR X3 w.heap.size s.fv (pi.text l.length 1 ++ all (l.take (k + 1)))) := by unfold Hid; rw [HN.out, hfv]; exact hBR6
          have hB6 := hbel.trans hbl2
          clear hBR6 hC hfv hbl
          generalize s.fv = v' at HR6 ⊢
          simp only [dk.sets, ws]
          go_wp2
          go_roundw
          case rel => exact ⟨k + 1, by omega, by go_num, HR6, hB6⟩
          case measure => simp [intOf]; omega
    · obtain rfl : k = l.length := by omega
      have hcv := br.run_text wr w.heap.size u3 _ hrow.out
      have HF : Hid (pi.text l.length 1 ++ all (l.take l.length) = out l) := by unfold Hid; rw [List.take_length, HO.out]
      rw [HF.out] at hcv
      clear hrow
      go_wp2
      go_ret
      exact ⟨rfl, hbel⟩
theorem spec_put (l : List flP.Pr) (a : Option Addr) (cap : Nat) (w : World) (F : bs.Fit l) (hS : Row flP.c 3 w w.heap.size a l) :
    Calls Tryz.prog 13 #[.slice a l.length cap] w fun e w' => e = .returned (.string (out l)) ∧ Below w.heap.size w w' := by
  cases h : okb l with
  | false => exact spec_no l a cap w F h hS
  | true => exact spec_yes l a cap w F h hS
end Go.Proofs.YtjnfljipomjcjaaGreatDoor.pbs
