/- The program's Replay. -/
import Derived.Test.YtadlgimfdpbmdaaDoorReplaySpec
import Derived.Test.YtadlgimfdpbmdaaDoorRecImpl
import Derived.Test.YtadlgimfdpbmdaaDoorIterLaid
import Derived.StringKeys
namespace Go.Proofs.YtadlgimfdpbmdaaDoor.rpi
open Go.ChangeShapes Go.WideShapes Go.ChangeAt Go.RowKit Go.Proofs.YtadlgimfdpbmdaaDoor.fl Go.Proofs.YtadlgimfdpbmdaaDoor.fo Go.Proofs.YtadlgimfdpbmdaaDoor.rn Go.Proofs.YtadlgimfdpbmdaaDoor.mrR Go.Proofs.YtadlgimfdpbmdaaDoor.rcp Go.Proofs.YtadlgimfdpbmdaaDoor.rcm Go.Proofs.YtadlgimfdpbmdaaDoor.rpp Go.Proofs.YtadlgimfdpbmdaaDoor.rps Go.Proofs.YtadlgimfdpbmdaaDoor.rcI
set_option linter.unusedVariables false

/-- what stands when some pairs are set in the map -/
structure Sm (W : World) (b : Nat) (R : List (List flP.Pr)) (i k : Nat) (wr : World) : Prop where
  bel : Below W.heap.size W wr
  mp : ∃ n, n ≤ (upto R i k).length ∧ wr.ownsMap Tryd.prog 9 rd b n (dm (ev (upto R i k)))

def cT (p : flP.Pr) : List Value := [.string p.k]
theorem cT_len (p : flP.Pr) : (cT p).length = 1 := rfl
theorem keys_cells : ∀ (L : List flP.Pr), (bts L).map encStr = L.flatMap cT
  | [] => rfl
  | p :: L => by
    have ih := keys_cells L
    unfold bts at ih ⊢
    rw [List.map_cons, List.map_cons, List.flatMap_cons, ih]
    rfl
/-- a look-up of a key that is there -/
theorem look {w : World} {b n : Nat} {L : List flP.Pr} {p : flP.Pr} (h : w.ownsMap Tryd.prog 9 rd b n (dm L)) (hA : mgp.Asc L) (hp : p ∈ L) (hk : p.k.size ≤ 100) :
    (Instr.lookup 67 (.map (some b)) (.string p.k) false).run Tryd.prog w = .ok (.agg #[.string p.k, .string p.v, .bool p.g]) w := by
  obtain ⟨v, ps, hrun, hv⟩ := h.lookup (Maps.string_keyed Tryd.underlying9) Tryd.underlying67 (Tryd.zeroValue47 w) (rd_mk _ _ _) (WideMaps.keyOf_string_mk (s := p.k) Tryd.underlying9 (by unfold maxLen; omega))
  obtain ⟨k, v', g, rfl, hz⟩ := rd_inv hv
  have h2 := (Prod.mk.inj hz).1
  have h3 : pd p = pd ⟨k, v', g⟩ := (dm_at hA hp _).symm.trans h2
  obtain rfl := pd_inj h3
  exact hrun
theorem own_map {w w' : World} {P : Program} {k : TypeId} {R : Value → Option (DataW Unit × List MemPlace)} {b n : Nat} {D : DataW Unit} (h : w.ownsMap P k R b n D) (hb : Below w.heap.size w w') : w'.ownsMap P k R b n D :=
  h.kept (row := none) ⟨hb.os, hb.tape, hb.output, hb.size, fun i hi _ => hb.block i hi⟩ (by simp)
theorem ev_ok {A : List flP.Pr} (h : ∀ e ∈ A, bo.okP e) : ∀ e ∈ ev A, bo.okP e := by
  have gen : ∀ (A L : List flP.Pr), (∀ e ∈ A, bo.okP e) → (∀ e ∈ L, bo.okP e) → ∀ e ∈ A.foldl ptp.setP L, bo.okP e := by
    intro A
    induction A with
    | nil => intro L _ hL; exact hL
    | cons a A ih =>
      intro L hA hL
      refine ih _ (fun e he => hA e (List.mem_cons_of_mem _ he)) (fun e he => ?_)
      rcases ptp.setP_mem he with h | h
      · exact hL e h
      · rw [h]; exact hA a (List.mem_cons_self ..)
  exact gen A [] h (fun e he => by cases he)
/-- what stands while what stays is laid -/
def S5 (W5 : World) (L : List flP.Pr) (k : Nat) (v : Value) (wx : World) : Prop := Below W5.heap.size W5 wx ∧ wx.ownsRow W5.heap.size 47 3 v ((L.take k).filter kp).length (((L.take k).filter kp).flatMap flP.c)
set_option maxRecDepth 100000 in
set_option maxHeartbeats 4000000 in
theorem impl_replay (s : ByteArray) (w : World) (hs : s.size ≤ 1048576) (hT : TB w) :
    Calls Tryd.prog 25 #[.string s] w fun e w' => ∃ v, e = .returned v ∧ w'.ownsRow w.heap.size 47 3 v (rep s).length ((rep s).flatMap flP.c) ∧ Below w.heap.size w w' := by
  have hrc := impl_recs s w hs hT
  obtain ⟨R, hR⟩ : ∃ R, (recs s).1 = R := ⟨_, rfl⟩
  obtain ⟨z, hz⟩ : ∃ z, (recs s).2 = z := ⟨_, rfl⟩
  have HRep : Hid (rep s = (ev R.flatten).filter kp) := by unfold Hid rep; rw [hR]; rfl
  have hfl : R.flatten.length ≤ 200000 ∧ R.length ≤ 25000 ∧ ∀ l ∈ R, ∀ e ∈ l, bo.okP e := by
    by_cases h : s.size ≤ 200000
    · obtain ⟨i, hi, _⟩ := left_ex s h
      rw [hR] at hi
      exact ⟨by have := hi.tot; have := hi.hi; omega, left_len h hi, hi.oks⟩
    · rw [recs_big (by omega)] at hR
      subst hR
      simp
  obtain ⟨hf1, hf2, hf3⟩ := hfl
  have HOK : Hid (∀ l ∈ R, ∀ e ∈ l, bo.okP e) := hf3
  rw [hR, hz] at hrc
  clear hR hz hf3
  go_enter Tryd.func25, Tryd.ntmps25
  go_wp2_with (go_at_call 18; fail)
  refine hrc.mono ?_
  rintro e W ⟨v1, rfl, rs, hm, hro⟩
  obtain ⟨la, lc, rfl, hvr, _⟩ := hro.vr
  have hBW := hro.bel
  have hrl : rs.length = R.length := by rw [← hm, List.length_map]
  have HVR : Hid (VR W W.heap.size la rs) := hvr
  have HM : Hid (rs.map (·.l) = R) := hm
  have hmm := @run_makeMap Tryd.prog
  have hkd : Maps.Keyed Tryd.prog 9 := Maps.string_keyed Tryd.underlying9
  have hal : Below W.heap.size W (W.alloc (.map #[] 0)) := (Below.refl _ _).alloc (Nat.le_refl _) _
  have HS0 : Hid (Sm W W.heap.size R 0 0 (W.alloc (.map #[] 0))) := ⟨hal, 0, Nat.zero_le _, by rw [upto_0]; exact World.ownsMap_made W Tryd.prog 9 rd⟩
  clear hrc hro hvr hm hT
  rw [hrl]
  go_wp2
  obtain ⟨W2, hW2⟩ : ∃ W2, W.alloc (.map #[] 0) = W2 := ⟨_, rfl⟩
  rw [hW2] at HS0 hal ⊢
  clear hW2 hmm
  go_loopw [22] (fun x wr => ∃ i : Nat, i ≤ R.length ∧ x = .int .i64 i ∧ Hid (Sm W W.heap.size R i 0 wr)) (fun x _ => R.length - (intOf x).toNat)
  case atStart => exact ⟨0, Nat.zero_le _, rfl, HS0⟩
  case round =>
    obtain ⟨i, hi, rfl, hst⟩ := hrel
    by_cases hil : i < R.length
    · have hir : i < rs.length := by omega
      have i2 : (i : Int) < (R.length : Int) := by omega
      have HG : Hid (rs[i]? = some rs[i]) := List.getElem?_eq_getElem hir
      have HRR : Hid (Row flP.c 3 W W.heap.size rs[i].a rs[i].l) := HVR.out.2 rs[i] (List.getElem_mem hir)
      have HRI : Hid (R[i]? = some rs[i].l) := by unfold Hid; rw [← HM.out, List.getElem?_map, List.getElem?_eq_getElem hir]; rfl
      obtain ⟨⟨ra, rc, rl⟩, he⟩ : ∃ e, rs[i] = e := ⟨_, rfl⟩
      rw [he] at HG HRR HRI
      obtain ⟨b, off, rfl, hlt, hc⟩ := HVR.out.1.resolve_left (by rintro rfl; simp at hir)
      have HOL : Hid (∀ e ∈ rl, bo.okP e) := HOK.out rl (List.mem_of_getElem? HRI.out)
      have c0 : wr.cell? ⟨b, off + i, none⟩ = some (.slice ra rl.length rc) := (hst.out.bel.cell (p := ⟨b, off + i, none⟩) hlt).trans (by have := hc i _ HG.out 0 _ rfl; simpa using this)
      have hrl60 : rl.length ≤ R.flatten.length := by
        have h2 := upto_le (R := R) i rl.length
        unfold upto at h2
        rw [List.getD_eq_getElem?_getD, HRI.out, Option.getD_some, List.take_length, List.length_append] at h2
        omega
      clear he hc HS0 hir
      go_wp2
      go_loopw [28] (fun x wr => ∃ k : Nat, k ≤ rl.length ∧ x = .int .i64 k ∧ Hid (Sm W W.heap.size R i k wr)) (fun x _ => rl.length - (intOf x).toNat)
      case atStart => exact ⟨0, Nat.zero_le _, rfl, hst⟩
      case round =>
        obtain ⟨k, hk, rfl, hs2⟩ := hrel
        clear hst c0
        by_cases hkl : k < rl.length
        · have i3 : (k : Int) < (rl.length : Int) := by omega
          have HE : Hid (rl[k]? = some rl[k]) := List.getElem?_eq_getElem hkl
          have hok := HOL.out rl[k] (List.getElem_mem hkl)
          obtain ⟨⟨pk, pv, pg⟩, hpe⟩ : ∃ e, rl[k] = e := ⟨_, rfl⟩
          rw [hpe] at HE hok
          have hpk : pk.size ≤ 100 := hok.2.1
          obtain ⟨qb, qo, rfl, hqlt, hqc⟩ := HRR.out.resolve_left (by rintro h0; rw [h0] at hkl; simp at hkl)
          have go : ∀ (o : Nat) (v : Value), W.cell? ⟨qb, o, none⟩ = some v → wr.cell? ⟨qb, o, none⟩ = some v := fun o v hv => (hs2.out.bel.cell (p := ⟨qb, o, none⟩) hqlt).trans hv
          have p0 := go _ _ (hqc k _ HE.out 0 _ rfl)
          have p1 := go _ _ (hqc k _ HE.out 1 _ rfl)
          have p2 := go _ _ (hqc k _ HE.out 2 _ rfl)
          rw [Nat.add_zero] at p0
          obtain ⟨n, hn, hown⟩ := hs2.out.mp
          have hnl : n < maxLen := by have := upto_le (R := R) i k; unfold maxLen; omega
          have hB := hs2.out.bel
          have hBs := hB.size
          have hownX := hown.alloc (.cells #[.string pk, .string pv, .bool pg] 47)
          have hBX : Below W.heap.size W (wr.alloc (.cells #[.string pk, .string pv, .bool pg] 47)) := hB.alloc hBs _
          have hkey : keyOf Tryd.prog 9 (.string pk) = some (kl pk) := WideMaps.keyOf_string_mk Tryd.underlying9 (by unfold maxLen; omega)
          obtain ⟨w1, hrun, hown1, hgr⟩ := hownX.update hkd Tryd.underlying67 hnl hkey (rd_mk pk pv pg)
          have HN : Hid (Sm W W.heap.size R i (k + 1) w1) := by
            refine ⟨hBX.grown hgr hBX.size (fun j hj => by have := Option.some.inj hj; omega), n + 1, ?_, ?_⟩
            · rw [upto_next HRI.out HE.out, List.length_append, List.length_singleton]; omega
            · rw [upto_next HRI.out HE.out, ev_app, ← dm_put (ev_asc _)]
              exact hown1
          clear hpe hqc go hs2 hown hownX hown1 hgr hB hBX hkey hok
          go_wp2
          go_roundw
          case rel => exact ⟨k + 1, by omega, by go_num, HN⟩
          case measure => simp [intOf]; omega
        · obtain rfl : k = rl.length := by omega
          have HN : Hid (Sm W W.heap.size R (i + 1) 0 wr) := by
            obtain ⟨h1, h2⟩ := hs2.out
            rw [upto_row HRI.out] at h2
            exact ⟨h1, h2⟩
          clear hs2
          go_wp2
          go_roundw
          case rel => exact ⟨i + 1, by omega, by go_num, HN⟩
          case measure => simp [intOf]; omega
    · obtain rfl : i = R.length := by omega
      obtain ⟨h1, n, hn, hown⟩ := hst.out
      rw [upto_all] at hn hown
      have hln : (ev R.flatten).length ≤ 200000 := by have := ev_len R.flatten; omega
      have hkc := itl.keys_call (some W.heap.size) wr
      have hsc := itl.sorted_call W.heap.size n (dm (ev R.flatten)) rd wr hown (by rw [dm_size]; unfold maxLen; omega) (by rw [dm_size]; omega)
      have HOWN : Hid (wr.ownsMap Tryd.prog 9 rd W.heap.size n (dm (ev R.flatten))) := hown
      have hb2 : Below w.heap.size w wr := hBW.trans (h1.mono hBW.size)
      have hal2 : Below wr.heap.size wr (wr.alloc (.cells #[.map (some W.heap.size)] 67)) := (Below.refl _ _).alloc (Nat.le_refl _) _
      clear hst HS0 hown
      go_wp2_with (go_at_call 52; fail)
      refine hkc.mono ?_
      rintro e w4 ⟨rfl, rfl⟩
      clear hkc
      go_wp2_with (go_at_call 51; fail)
      refine hsc.mono ?_
      rintro e w5 ⟨v5, ss, rfl, hp5, ho5, _, hb5⟩
      clear hsc
      rw [dm_keys] at hp5
      obtain ⟨L, hL⟩ : ∃ L, ev R.flatten = L := ⟨_, rfl⟩
      have HA : Hid (mgp.Asc L) := hL ▸ ev_asc R.flatten
      rw [sorted_keys (ev_asc R.flatten) hp5, hp5.length_eq, hL] at ho5
      rw [keys_cells, show (bts L).length = L.length by unfold bts; rw [List.length_map]] at ho5
      obtain ⟨ka, kc, rfl, hkr⟩ := own_row cT_len ho5
      have HKR : Hid (Row cT 1 w5 w5.heap.size ka L) := hkr
      have hb15 : Below wr.heap.size wr w5 := hal2.trans (hb5.mono hal2.size)
      have HM5 : Hid (w5.ownsMap Tryd.prog 9 rd W.heap.size n (dm L)) := by rw [← hL]; exact own_map HOWN.out hb15
      have HOE : Hid (∀ e ∈ L, bo.okP e) := by
        unfold Hid
        rw [← hL]
        exact ev_ok (fun e he => by obtain ⟨l, hl, hel⟩ := List.mem_flatten.1 he; exact HOK.out l hl e hel)
      rw [hL] at hln
      have hbw5 : Below w.heap.size w w5 := hb2.trans (hb15.mono hb2.size)
      have HS5 : Hid (S5 w5 L 0 (.slice none 0 0) w5) := ⟨Below.refl _ _, World.ownsRow_nil w5 w5.heap.size _ 3⟩
      have HRP : Hid (rep s = L.filter kp) := by unfold Hid; rw [HRep.out, hL]
      clear ho5 hkr hb15 hp5 hb5 hal2 HOWN hL HRep
      obtain ⟨i0, hif, hz0, hz1, hz2⟩ := sct.infoP
      go_wp2
      go_loopw [10, 42] (fun v x wr => ∃ k : Nat, k ≤ L.length ∧ x = .int .i64 k ∧ Hid (S5 w5 L k v wr)) (fun _ x _ => L.length - (intOf x).toNat)
      case atStart => exact ⟨0, Nat.zero_le _, rfl, HS5⟩
      case round =>
        obtain ⟨k, hk, rfl, hst⟩ := hrel
        clear HS5
        by_cases hkl : k < L.length
        · obtain ⟨s1, s2⟩ := hst.out
          have s6 := s1.size
          have i2 : (k : Int) < (L.length : Int) := by omega
          have HG : Hid (L[k]? = some L[k]) := List.getElem?_eq_getElem hkl
          have hlk := look (own_map HM5.out s1) HA.out (List.getElem_mem hkl) (HOE.out L[k] (List.getElem_mem hkl)).2.1
          obtain ⟨⟨pk, pv, pg⟩, he⟩ : ∃ e, L[k] = e := ⟨_, rfl⟩
          rw [he] at HG hlk
          obtain ⟨b, off, rfl, hlt, hc⟩ := HKR.out.resolve_left (by rintro rfl; simp at hkl)
          have c0 : wr.cell? ⟨b, off + k, none⟩ = some (.string pk) := (s1.cell (p := ⟨b, off + k, none⟩) hlt).trans (by have := hc k _ HG.out 0 _ rfl; simpa using this)
          have hlen : ((L.take k).filter kp).length ≤ 200000 := by have := List.length_filter_le kp (L.take k); rw [List.length_take] at this; omega
          have hal5 : Below wr.heap.size wr (wr.alloc (.cells #[.string pk, .string pv, .bool pg] 47)) := (Below.refl _ _).alloc (Nat.le_refl _) _
          have hsa : Below w5.heap.size w5 (wr.alloc (.cells #[.string pk, .string pv, .bool pg] 47)) := s1.trans (hal5.mono s6)
          have s2a := gbs.own_on s2 hal5
          clear he hc
          cases pg with
          | true =>
            have HN : Hid ((L.take (k + 1)).filter kp = (L.take k).filter kp) := nx_no HG.out rfl
            have hst2 : Hid (S5 w5 L (k + 1) u10 (wr.alloc (.cells #[.string pk, .string pv, .bool true] 47))) := by
              unfold Hid S5
              rw [HN.out]
              exact ⟨hsa, s2a⟩
            clear hst s1 s2 s2a hsa hal5
            go_wp2
            go_roundw
            case rel => exact ⟨k + 1, by omega, by go_num, hst2⟩
            case measure => simp [intOf]; omega
          | false =>
            have HN : Hid ((L.take (k + 1)).filter kp = (L.take k).filter kp ++ [⟨pk, pv, false⟩]) := nx_yes HG.out rfl
            obtain ⟨X, hX⟩ : ∃ X, wr.alloc (.cells #[.string pk, .string pv, .bool false] 47) = X := ⟨_, rfl⟩
            have hXs : X.heap.size = wr.heap.size + 1 := by rw [← hX]; simp
            rw [hX] at hsa s2a
            have hal6 : Below X.heap.size X (X.alloc (.cells #[.string pk, .string pv, .bool false] 47)) := (Below.refl _ _).alloc (Nat.le_refl _) _
            have hsb : Below w5.heap.size w5 (X.alloc (.cells #[.string pk, .string pv, .bool false] 47)) := hsa.trans (hal6.mono hsa.size)
            obtain ⟨v', Y4, hr, ho, hg, _, hat⟩ := run_append_own_at (P := Tryd.prog) (X.alloc (.cells #[.string pk, .string pv, .bool false] 47)) w5.heap.size 22 22 47 i0 (.agg #[.string ByteArray.empty, .string ByteArray.empty, .bool false]) 3 40 Tryd.underlying22 hif hz0 hz1 hz2 rfl (by decide) u10 _ _ (gbs.own_on s2a hal6) ⟨X.heap.size, 0, none⟩ 1 1 [.string pk, .string pv, .bool false] rfl (fun j u hu => by rw [sct.add0]; exact bcell (bnew X _ _) (by simpa using hu)) (by intro u hu; simp at hu; rcases hu with rfl | rfl | rfl <;> rfl) (by unfold maxLen; omega) (by omega) hsb.size
            have hst2 : Hid (S5 w5 L (k + 1) v' Y4) := by
              unfold Hid S5
              rw [HN.out, List.length_append, List.flatMap_append]
              exact ⟨hsb.grown hg hsb.size (fun b hb => (s2a.lt b hb).1), by simpa [flP.c] using ho⟩
            rw [hXs, ← hX] at hr
            clear ho hg hal5 hst hat s1 s2 s2a hsa hsb hal6 hX hXs
            go_wp2_with (at_builtin; refine cpr.wpList_append_run rfl _ _ _ _ rfl _ _ _ rfl rfl hr ?_)
            go_roundw
            case rel => exact ⟨k + 1, by omega, by go_num, hst2⟩
            case measure => simp [intOf]; omega
        · obtain rfl : k = L.length := by omega
          have HFN : Hid (∃ v, Ending.returned u10 = .returned v ∧ wr.ownsRow w.heap.size 47 3 v (rep s).length ((rep s).flatMap flP.c) ∧ Below w.heap.size w wr) := by
            unfold Hid
            have h2 := hst.out.2
            rw [List.take_length] at h2
            rw [HRP.out]
            exact ⟨u10, rfl, sct.own_low h2 hbw5.size, hbw5.trans (hst.out.1.mono hbw5.size)⟩
          clear hst
          go_wp2
          go_ret
          exact HFN.out
end Go.Proofs.YtadlgimfdpbmdaaDoor.rpi
