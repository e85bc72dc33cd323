/- StoreCrash: the program. -/
import Derived.Test.YtlgcciaebkfnjaaGreatDoorReplaySpec
import Derived.Test.YtlgcciaebkfnjaaGreatDoorSq02
import Derived.StringKeys
import Derived.Test.YtlgcciaebkfnjaaGreatDoorStoMarks
import Derived.Test.YtlgcciaebkfnjaaGreatDoorCloneLaid
import Derived.Test.YtlgcciaebkfnjaaGreatDoorPairMarks
import Derived.Laws.Small
import Derived.Deep.RegionWith

/- The program's Replay. -/
namespace Go.Proofs.YtlgcciaebkfnjaaGreatDoor.rpi
open Go.ChangeShapes Go.WideShapes Go.ChangeAt Go.RowKit Go.Proofs.YtlgcciaebkfnjaaGreatDoor.fl Go.Proofs.YtlgcciaebkfnjaaGreatDoor.fo Go.Proofs.YtlgcciaebkfnjaaGreatDoor.rn Go.Proofs.YtlgcciaebkfnjaaGreatDoor.mrR Go.Proofs.YtlgcciaebkfnjaaGreatDoor.rcp Go.Proofs.YtlgcciaebkfnjaaGreatDoor.rcm Go.Proofs.YtlgcciaebkfnjaaGreatDoor.rpp Go.Proofs.YtlgcciaebkfnjaaGreatDoor.rps Go.Proofs.YtlgcciaebkfnjaaGreatDoor.rcI
set_option linter.unusedVariables false

/-- what stands when some pairs are set in the map -/
structure Sm (W : World) (b : Nat) (R : List (List flP.Pr)) (i k : Nat) (wr : World) : Prop where
  bel : Below W.heap.size W wr
  mp : ∃ n, n ≤ (upto R i k).length ∧ wr.ownsMap Tryz.prog 9 rd b n (dm (ev (upto R i k)))

def cT (p : flP.Pr) : List Value := [.string p.k]
theorem cT_len (p : flP.Pr) : (cT p).length = 1 := rfl
theorem keys_cells : ∀ (L : List flP.Pr), (bts L).map encStr = L.flatMap cT
  | [] => rfl
  | p :: L => by
    have ih := keys_cells L
    unfold bts at ih ⊢
    rw [List.map_cons, List.map_cons, List.flatMap_cons, ih]
    rfl
/-- a look-up of a key that is there -/
theorem look {w : World} {b n : Nat} {L : List flP.Pr} {p : flP.Pr} (h : w.ownsMap Tryz.prog 9 rd b n (dm L)) (hA : mgp.Asc L) (hp : p ∈ L) (hk : p.k.size ≤ 100) :
    (Instr.lookup 89 (.map (some b)) (.string p.k) false).run Tryz.prog w = .ok (.agg #[.string p.k, .string p.v, .bool p.g]) w := by
  obtain ⟨v, ps, hrun, hv⟩ := h.lookup (Maps.string_keyed Tryz.underlying9) Tryz.underlying89 (Tryz.zeroValue49 w) (rd_mk _ _ _) (WideMaps.keyOf_string_mk (s := p.k) Tryz.underlying9 (by unfold maxLen; omega))
  obtain ⟨k, v', g, rfl, hz⟩ := rd_inv hv
  have h2 := (Prod.mk.inj hz).1
  have h3 : pd p = pd ⟨k, v', g⟩ := (dm_at hA hp _).symm.trans h2
  obtain rfl := pd_inj h3
  exact hrun
theorem own_map {w w' : World} {P : Program} {k : TypeId} {R : Value → Option (DataW Unit × List MemPlace)} {b n : Nat} {D : DataW Unit} (h : w.ownsMap P k R b n D) (hb : Below w.heap.size w w') : w'.ownsMap P k R b n D :=
  h.kept (row := none) ⟨hb.os, hb.tape, hb.output, hb.size, fun i hi _ => hb.block i hi⟩ (by simp)
theorem ev_ok {A : List flP.Pr} (h : ∀ e ∈ A, bo.okP e) : ∀ e ∈ ev A, bo.okP e := by
  have gen : ∀ (A L : List flP.Pr), (∀ e ∈ A, bo.okP e) → (∀ e ∈ L, bo.okP e) → ∀ e ∈ A.foldl ptp.setP L, bo.okP e := by
    intro A
    induction A with
    | nil => intro L _ hL; exact hL
    | cons a A ih =>
      intro L hA hL
      refine ih _ (fun e he => hA e (List.mem_cons_of_mem _ he)) (fun e he => ?_)
      rcases ptp.setP_mem he with h | h
      · exact hL e h
      · rw [h]; exact hA a (List.mem_cons_self ..)
  exact gen A [] h (fun e he => by cases he)
/-- what stands while what stays is laid -/
def S5 (W5 : World) (L : List flP.Pr) (k : Nat) (v : Value) (wx : World) : Prop := Below W5.heap.size W5 wx ∧ wx.ownsRow W5.heap.size 49 3 v ((L.take k).filter kp).length (((L.take k).filter kp).flatMap flP.c)
set_option maxRecDepth 100000 in
set_option maxHeartbeats 4000000 in
theorem impl_replay (s : ByteArray) (w : World) (hs : s.size ≤ 1048576) (hT : TB w) :
    Calls Tryz.prog 26 #[.string s] w fun e w' => ∃ v, e = .returned v ∧ w'.ownsRow w.heap.size 49 3 v (rep s).length ((rep s).flatMap flP.c) ∧ Below w.heap.size w w' := by
  have hrc := impl_recs s w hs hT
  obtain ⟨R, hR⟩ : ∃ R, (recs s).1 = R := ⟨_, rfl⟩
  obtain ⟨z, hz⟩ : ∃ z, (recs s).2 = z := ⟨_, rfl⟩
  have HRep : Hid (rep s = (ev R.flatten).filter kp) := by unfold Hid rep; rw [hR]; rfl
  have hfl : R.flatten.length ≤ 200000 ∧ R.length ≤ 25000 ∧ ∀ l ∈ R, ∀ e ∈ l, bo.okP e := by
    by_cases h : s.size ≤ 200000
    · obtain ⟨i, hi, _⟩ := left_ex s h
      rw [hR] at hi
      exact ⟨by have := hi.tot; have := hi.hi; omega, left_len h hi, hi.oks⟩
    · rw [recs_big (by omega)] at hR
      subst hR
      simp
  obtain ⟨hf1, hf2, hf3⟩ := hfl
  have HOK : Hid (∀ l ∈ R, ∀ e ∈ l, bo.okP e) := hf3
  rw [hR, hz] at hrc
  clear hR hz hf3
  go_enter Tryz.func26, Tryz.ntmps26
  go_wp2_with (go_at_call 54; fail)
  refine hrc.mono ?_
  rintro e W ⟨v1, rfl, rs, hm, hro⟩
  obtain ⟨la, lc, rfl, hvr, _⟩ := hro.vr
  have hBW := hro.bel
  have hrl : rs.length = R.length := by rw [← hm, List.length_map]
  have HVR : Hid (VR W W.heap.size la rs) := hvr
  have HM : Hid (rs.map (·.l) = R) := hm
  have hmm := @run_makeMap Tryz.prog
  have hkd : Maps.Keyed Tryz.prog 9 := Maps.string_keyed Tryz.underlying9
  have hal : Below W.heap.size W (W.alloc (.map #[] 0)) := (Below.refl _ _).alloc (Nat.le_refl _) _
  have HS0 : Hid (Sm W W.heap.size R 0 0 (W.alloc (.map #[] 0))) := ⟨hal, 0, Nat.zero_le _, by rw [upto_0]; exact World.ownsMap_made W Tryz.prog 9 rd⟩
  clear hrc hro hvr hm hT
  rw [hrl]
  go_wp2
  obtain ⟨W2, hW2⟩ : ∃ W2, W.alloc (.map #[] 0) = W2 := ⟨_, rfl⟩
  rw [hW2] at HS0 hal ⊢
  clear hW2 hmm
  go_loopw [22] (fun x wr => ∃ i : Nat, i ≤ R.length ∧ x = .int .i64 i ∧ Hid (Sm W W.heap.size R i 0 wr)) (fun x _ => R.length - (intOf x).toNat)
  case atStart => exact ⟨0, Nat.zero_le _, rfl, HS0⟩
  case round =>
    obtain ⟨i, hi, rfl, hst⟩ := hrel
    by_cases hil : i < R.length
    · have hir : i < rs.length := by omega
      have i2 : (i : Int) < (R.length : Int) := by omega
      have HG : Hid (rs[i]? = some rs[i]) := List.getElem?_eq_getElem hir
      have HRR : Hid (Row flP.c 3 W W.heap.size rs[i].a rs[i].l) := HVR.out.2 rs[i] (List.getElem_mem hir)
      have HRI : Hid (R[i]? = some rs[i].l) := by unfold Hid; rw [← HM.out, List.getElem?_map, List.getElem?_eq_getElem hir]; rfl
      obtain ⟨⟨ra, rc, rl⟩, he⟩ : ∃ e, rs[i] = e := ⟨_, rfl⟩
      rw [he] at HG HRR HRI
      obtain ⟨b, off, rfl, hlt, hc⟩ := HVR.out.1.resolve_left (by rintro rfl; simp at hir)
      have HOL : Hid (∀ e ∈ rl, bo.okP e) := HOK.out rl (List.mem_of_getElem? HRI.out)
      have c0 : wr.cell? ⟨b, off + i, none⟩ = some (.slice ra rl.length rc) := (hst.out.bel.cell (p := ⟨b, off + i, none⟩) hlt).trans (by have := hc i _ HG.out 0 _ rfl; simpa using this)
      have hrl60 : rl.length ≤ R.flatten.length := by
        have h2 := upto_le (R := R) i rl.length
        unfold upto at h2
        rw [List.getD_eq_getElem?_getD, HRI.out, Option.getD_some, List.take_length, List.length_append] at h2
        omega
      clear he hc HS0 hir
      go_wp2
      go_loopw [28] (fun x wr => ∃ k : Nat, k ≤ rl.length ∧ x = .int .i64 k ∧ Hid (Sm W W.heap.size R i k wr)) (fun x _ => rl.length - (intOf x).toNat)
      case atStart => exact ⟨0, Nat.zero_le _, rfl, hst⟩
      case round =>
        obtain ⟨k, hk, rfl, hs2⟩ := hrel
        clear hst c0
        by_cases hkl : k < rl.length
        · have i3 : (k : Int) < (rl.length : Int) := by omega
          have HE : Hid (rl[k]? = some rl[k]) := List.getElem?_eq_getElem hkl
          have hok := HOL.out rl[k] (List.getElem_mem hkl)
          obtain ⟨⟨pk, pv, pg⟩, hpe⟩ : ∃ e, rl[k] = e := ⟨_, rfl⟩
          rw [hpe] at HE hok
          have hpk : pk.size ≤ 100 := hok.2.1
          obtain ⟨qb, qo, rfl, hqlt, hqc⟩ := HRR.out.resolve_left (by rintro h0; rw [h0] at hkl; simp at hkl)
          have go : ∀ (o : Nat) (v : Value), W.cell? ⟨qb, o, none⟩ = some v → wr.cell? ⟨qb, o, none⟩ = some v := fun o v hv => (hs2.out.bel.cell (p := ⟨qb, o, none⟩) hqlt).trans hv
          have p0 := go _ _ (hqc k _ HE.out 0 _ rfl)
          have p1 := go _ _ (hqc k _ HE.out 1 _ rfl)
          have p2 := go _ _ (hqc k _ HE.out 2 _ rfl)
          rw [Nat.add_zero] at p0
          obtain ⟨n, hn, hown⟩ := hs2.out.mp
          have hnl : n < maxLen := by have := upto_le (R := R) i k; unfold maxLen; omega
          have hB := hs2.out.bel
          have hBs := hB.size
          have hownX := hown.alloc (.cells #[.string pk, .string pv, .bool pg] 49)
          have hBX : Below W.heap.size W (wr.alloc (.cells #[.string pk, .string pv, .bool pg] 49)) := hB.alloc hBs _
          have hkey : keyOf Tryz.prog 9 (.string pk) = some (kl pk) := WideMaps.keyOf_string_mk Tryz.underlying9 (by unfold maxLen; omega)
          obtain ⟨w1, hrun, hown1, hgr⟩ := hownX.update hkd Tryz.underlying89 hnl hkey (rd_mk pk pv pg)
          have HN : Hid (Sm W W.heap.size R i (k + 1) w1) := by
            refine ⟨hBX.grown hgr hBX.size (fun j hj => by have := Option.some.inj hj; omega), n + 1, ?_, ?_⟩
            · rw [upto_next HRI.out HE.out, List.length_append, List.length_singleton]; omega
            · rw [upto_next HRI.out HE.out, ev_app, ← dm_put (ev_asc _)]
              exact hown1
          clear hpe hqc go hs2 hown hownX hown1 hgr hB hBX hkey hok
          go_wp2
          go_roundw
          case rel => exact ⟨k + 1, by omega, by go_num, HN⟩
          case measure => simp [intOf]; omega
        · obtain rfl : k = rl.length := by omega
          have HN : Hid (Sm W W.heap.size R (i + 1) 0 wr) := by
            obtain ⟨h1, h2⟩ := hs2.out
            rw [upto_row HRI.out] at h2
            exact ⟨h1, h2⟩
          clear hs2
          go_wp2
          go_roundw
          case rel => exact ⟨i + 1, by omega, by go_num, HN⟩
          case measure => simp [intOf]; omega
    · obtain rfl : i = R.length := by omega
      obtain ⟨h1, n, hn, hown⟩ := hst.out
      rw [upto_all] at hn hown
      have hln : (ev R.flatten).length ≤ 200000 := by have := ev_len R.flatten; omega
      have hkc := itl.keys_call (some W.heap.size) wr
      have hsc := itl.sorted_call W.heap.size n (dm (ev R.flatten)) rd wr hown (by rw [dm_size]; unfold maxLen; omega) (by rw [dm_size]; omega)
      have HOWN : Hid (wr.ownsMap Tryz.prog 9 rd W.heap.size n (dm (ev R.flatten))) := hown
      have hb2 : Below w.heap.size w wr := hBW.trans (h1.mono hBW.size)
      have hal2 : Below wr.heap.size wr (wr.alloc (.cells #[.map (some W.heap.size)] 89)) := (Below.refl _ _).alloc (Nat.le_refl _) _
      clear hst HS0 hown
      go_wp2_with (go_at_call 64; fail)
      refine hkc.mono ?_
      rintro e w4 ⟨rfl, rfl⟩
      clear hkc
      go_wp2_with (go_at_call 63; fail)
      refine hsc.mono ?_
      rintro e w5 ⟨v5, ss, rfl, hp5, ho5, _, hb5⟩
      clear hsc
      rw [dm_keys] at hp5
      obtain ⟨L, hL⟩ : ∃ L, ev R.flatten = L := ⟨_, rfl⟩
      have HA : Hid (mgp.Asc L) := hL ▸ ev_asc R.flatten
      rw [sorted_keys (ev_asc R.flatten) hp5, hp5.length_eq, hL] at ho5
      rw [keys_cells, show (bts L).length = L.length by unfold bts; rw [List.length_map]] at ho5
      obtain ⟨ka, kc, rfl, hkr⟩ := own_row cT_len ho5
      have HKR : Hid (Row cT 1 w5 w5.heap.size ka L) := hkr
      have hb15 : Below wr.heap.size wr w5 := hal2.trans (hb5.mono hal2.size)
      have HM5 : Hid (w5.ownsMap Tryz.prog 9 rd W.heap.size n (dm L)) := by rw [← hL]; exact own_map HOWN.out hb15
      have HOE : Hid (∀ e ∈ L, bo.okP e) := by
        unfold Hid
        rw [← hL]
        exact ev_ok (fun e he => by obtain ⟨l, hl, hel⟩ := List.mem_flatten.1 he; exact HOK.out l hl e hel)
      rw [hL] at hln
      have hbw5 : Below w.heap.size w w5 := hb2.trans (hb15.mono hb2.size)
      have HS5 : Hid (S5 w5 L 0 (.slice none 0 0) w5) := ⟨Below.refl _ _, World.ownsRow_nil w5 w5.heap.size _ 3⟩
      have HRP : Hid (rep s = L.filter kp) := by unfold Hid; rw [HRep.out, hL]
      clear ho5 hkr hb15 hp5 hb5 hal2 HOWN hL HRep
      obtain ⟨i0, hif, hz0, hz1, hz2⟩ := sct.infoP
      go_wp2
      go_loopw [10, 42] (fun v x wr => ∃ k : Nat, k ≤ L.length ∧ x = .int .i64 k ∧ Hid (S5 w5 L k v wr)) (fun _ x _ => L.length - (intOf x).toNat)
      case atStart => exact ⟨0, Nat.zero_le _, rfl, HS5⟩
      case round =>
        obtain ⟨k, hk, rfl, hst⟩ := hrel
        clear HS5
        by_cases hkl : k < L.length
        · obtain ⟨s1, s2⟩ := hst.out
          have s6 := s1.size
          have i2 : (k : Int) < (L.length : Int) := by omega
          have HG : Hid (L[k]? = some L[k]) := List.getElem?_eq_getElem hkl
          have hlk := look (own_map HM5.out s1) HA.out (List.getElem_mem hkl) (HOE.out L[k] (List.getElem_mem hkl)).2.1
          obtain ⟨⟨pk, pv, pg⟩, he⟩ : ∃ e, L[k] = e := ⟨_, rfl⟩
          rw [he] at HG hlk
          obtain ⟨b, off, rfl, hlt, hc⟩ := HKR.out.resolve_left (by rintro rfl; simp at hkl)
          have c0 : wr.cell? ⟨b, off + k, none⟩ = some (.string pk) := (s1.cell (p := ⟨b, off + k, none⟩) hlt).trans (by have := hc k _ HG.out 0 _ rfl; simpa using this)
          have hlen : ((L.take k).filter kp).length ≤ 200000 := by have := List.length_filter_le kp (L.take k); rw [List.length_take] at this; omega
          have hal5 : Below wr.heap.size wr (wr.alloc (.cells #[.string pk, .string pv, .bool pg] 49)) := (Below.refl _ _).alloc (Nat.le_refl _) _
          have hsa : Below w5.heap.size w5 (wr.alloc (.cells #[.string pk, .string pv, .bool pg] 49)) := s1.trans (hal5.mono s6)
          have s2a := gbs.own_on s2 hal5
          clear he hc
          cases pg with
          | true =>
            have HN : Hid ((L.take (k + 1)).filter kp = (L.take k).filter kp) := nx_no HG.out rfl
            have hst2 : Hid (S5 w5 L (k + 1) u10 (wr.alloc (.cells #[.string pk, .string pv, .bool true] 49))) := by
              unfold Hid S5
              rw [HN.out]
              exact ⟨hsa, s2a⟩
            clear hst s1 s2 s2a hsa hal5
            go_wp2
            go_roundw
            case rel => exact ⟨k + 1, by omega, by go_num, hst2⟩
            case measure => simp [intOf]; omega
          | false =>
            have HN : Hid ((L.take (k + 1)).filter kp = (L.take k).filter kp ++ [⟨pk, pv, false⟩]) := nx_yes HG.out rfl
            obtain ⟨X, hX⟩ : ∃ X, wr.alloc (.cells #[.string pk, .string pv, .bool false] 49) = X := ⟨_, rfl⟩
            have hXs : X.heap.size = wr.heap.size + 1 := by rw [← hX]; simp
            rw [hX] at hsa s2a
            have hal6 : Below X.heap.size X (X.alloc (.cells #[.string pk, .string pv, .bool false] 49)) := (Below.refl _ _).alloc (Nat.le_refl _) _
            have hsb : Below w5.heap.size w5 (X.alloc (.cells #[.string pk, .string pv, .bool false] 49)) := hsa.trans (hal6.mono hsa.size)
            obtain ⟨v', Y4, hr, ho, hg, _, hat⟩ := run_append_own_at (P := Tryz.prog) (X.alloc (.cells #[.string pk, .string pv, .bool false] 49)) w5.heap.size 24 24 49 i0 (.agg #[.string ByteArray.empty, .string ByteArray.empty, .bool false]) 3 40 Tryz.underlying24 hif hz0 hz1 hz2 rfl (by decide) u10 _ _ (gbs.own_on s2a hal6) ⟨X.heap.size, 0, none⟩ 1 1 [.string pk, .string pv, .bool false] rfl (fun j u hu => by rw [sct.add0]; exact bcell (bnew X _ _) (by simpa using hu)) (by intro u hu; simp at hu; rcases hu with rfl | rfl | rfl <;> rfl) (by unfold maxLen; omega) (by omega) hsb.size
            have hst2 : Hid (S5 w5 L (k + 1) v' Y4) := by
              unfold Hid S5
              rw [HN.out, List.length_append, List.flatMap_append]
              exact ⟨hsb.grown hg hsb.size (fun b hb => (s2a.lt b hb).1), by simpa [flP.c] using ho⟩
            rw [hXs, ← hX] at hr
            clear ho hg hal5 hst hat s1 s2 s2a hsa hsb hal6 hX hXs
            go_wp2_with (at_builtin; refine cpr.wpList_append_run rfl _ _ _ _ rfl _ _ _ rfl rfl hr ?_)
            go_roundw
            case rel => exact ⟨k + 1, by omega, by go_num, hst2⟩
            case measure => simp [intOf]; omega
        · obtain rfl : k = L.length := by omega
          have HFN : Hid (∃ v, Ending.returned u10 = .returned v ∧ wr.ownsRow w.heap.size 49 3 v (rep s).length ((rep s).flatMap flP.c) ∧ Below w.heap.size w wr) := by
            unfold Hid
            have h2 := hst.out.2
            rw [List.take_length] at h2
            rw [HRP.out]
            exact ⟨u10, rfl, sct.own_low h2 hbw5.size, hbw5.trans (hst.out.1.mono hbw5.size)⟩
          clear hst
          go_wp2
          go_ret
          exact HFN.out
end Go.Proofs.YtlgcciaebkfnjaaGreatDoor.rpi

/- StoreCrash: what is found again of a store: the specification and the program. -/
namespace Go.Proofs.YtlgcciaebkfnjaaGreatDoor.sco
open Go.ChangeShapes Go.WideShapes Go.ChangeAt Go.RowKit Go.Proofs.YtlgcciaebkfnjaaGreatDoor.fl Go.Proofs.YtlgcciaebkfnjaaGreatDoor.fo Go.Proofs.YtlgcciaebkfnjaaGreatDoor.rn Go.Proofs.YtlgcciaebkfnjaaGreatDoor.mrR Go.Proofs.YtlgcciaebkfnjaaGreatDoor.mrT Go.Proofs.YtlgcciaebkfnjaaGreatDoor.tan Go.Proofs.YtlgcciaebkfnjaaGreatDoor.rcp Go.Proofs.YtlgcciaebkfnjaaGreatDoor.rcm Go.Proofs.YtlgcciaebkfnjaaGreatDoor.rpp Go.Proofs.YtlgcciaebkfnjaaGreatDoor.rcI
set_option linter.unusedVariables false

/-- how many bytes are left -/
def lft (sf kp : Int) (n : Nat) : Int := max 0 (min sf n) + max 0 (min kp (n - max 0 (min sf n)))
theorem lft_in (sf kp : Int) (n : Nat) : 0 ≤ lft sf kp n ∧ lft sf kp n ≤ n := by unfold lft; omega
noncomputable def endL (lg : ByteArray) (sf kp : Int) : Int := (recs (lg.extract 0 (lft sf kp lg.size).toNat)).2
noncomputable def logL (lg : ByteArray) (sf kp : Int) : ByteArray := lg.extract 0 (endL lg sf kp).toNat
noncomputable def ansY (lg : ByteArray) (sf kp : Int) : List flP.Pr := rep (logL lg sf kp)
theorem recs_in (s : ByteArray) : 0 ≤ (recs s).2 ∧ (recs s).2 ≤ s.size := by
  by_cases h : s.size ≤ 200000
  · obtain ⟨i, hi, he⟩ := left_ex s h
    rw [he]
    have h1 := hi.far
    have h2 := hi.hi
    omega
  · rw [recs_big (by omega)]
    simp
theorem end_in (lg : ByteArray) (sf kp : Int) : 0 ≤ endL lg sf kp ∧ endL lg sf kp ≤ lft sf kp lg.size ∧ endL lg sf kp ≤ lg.size := by
  have h1 := recs_in (lg.extract 0 (lft sf kp lg.size).toNat)
  have h2 := lft_in sf kp lg.size
  rw [ByteArray.size_extract] at h1
  unfold endL
  omega
theorem cut_cut (lg : ByteArray) (a b : Nat) (h : b ≤ a) : (lg.extract 0 a).extract 0 b = lg.extract 0 b := by
  rw [ByteArray.extract_extract]
  simp only [Nat.zero_add, Nat.add_zero]
  congr 1
  omega
theorem rep_len (s : ByteArray) : (rep s).length ≤ 200000 := by
  unfold rep
  refine Nat.le_trans (List.length_filter_le _ _) (Nat.le_trans (ev_len _) ?_)
  by_cases h : s.size ≤ 200000
  · obtain ⟨i, hi, _⟩ := left_ex s h
    have h1 := hi.tot
    have h2 := hi.hi
    omega
  · rw [recs_big (by omega)]
    simp
theorem ta_one {w : World} {B : Nat} {fa : Option Addr} {l : List flP.Pr} (h : MP w B fa l) : TA w B fa none l [] :=
  ⟨⟨h, .inl rfl, fun r hr => (by cases hr), fun i j r s hi => (by simp at hi), fun g o e => (by cases e), fun k _ hb => (by obtain ⟨r, hr, _⟩ := hb; cases hr)⟩, fun g o e => (by cases e)⟩
/-- what both answer -/
def CA (w : World) (lg : ByteArray) (sf kp : Int) (e : Ending) (w' : World) : Prop := ∃ sa sc, e = .returned (.agg #[.slice sa (ansY lg sf kp).length sc, .slice none 0 0, .string (logL lg sf kp), .int .i64 (endL lg sf kp)]) ∧ TA w' w.heap.size sa none (ansY lg sf kp) [] ∧ Below w.heap.size w w'


set_option maxRecDepth 100000 in
set_option maxHeartbeats 1000000 in
theorem b1 (ya ra : Option Addr) (yl yc rl rc : Nat) (lg : ByteArray) (sf kp : Int) (w : World) (hlg : lg.size ≤ 1048576) (s0 : sf < 0) (k1 : (lg.size : Int) < kp) (k2 : 0 < (lg.size : Int)) (e0 : Hid (lft sf kp lg.size = (lg.size : Int))) :
    Calls Tryz.prog 19 #[.agg #[.slice ya yl yc, .slice ra rl rc, .string lg, .int .i64 sf], .int .i64 kp] w fun e w' => CA w lg sf kp e w' := by
  have hA := bnew w #[.slice ya yl yc, .slice ra rl rc, .string lg, .int .i64 sf] 29
  obtain ⟨W, hW⟩ : ∃ W, w.alloc (.cells #[.slice ya yl yc, .slice ra rl rc, .string lg, .int .i64 sf] 29) = W := ⟨_, rfl⟩
  have HB0 : Hid (Below w.heap.size w W) := by unfold Hid; rw [← hW]; exact (Below.refl _ _).alloc (Nat.le_refl _) _
  rw [hW] at hA
  have hlt := (Array.getElem?_eq_some_iff.1 hA).1
  have hO := bnew W #[.slice none 0 0, .slice none 0 0, .string ⟨#[]⟩, .int .i64 0] 29
  obtain ⟨V, hV⟩ : ∃ V, W.alloc (.cells #[.slice none 0 0, .slice none 0 0, .string ⟨#[]⟩, .int .i64 0] 29) = V := ⟨_, rfl⟩
  have HB2 : Hid (Below W.heap.size W V) := by unfold Hid; rw [← hV]; exact (Below.refl _ _).alloc (Nat.le_refl _) _
  rw [hV] at hO
  have HA : Hid (V.heap[w.heap.size]? = some (.cells #[.slice ya yl yc, .slice ra rl rc, .string lg, .int .i64 sf] 29 (0, 0))) := bstay hA HB2.out hlt
  have HO : Hid (V.heap[W.heap.size]? = some (.cells #[.slice none 0 0, .slice none 0 0, .string ⟨#[]⟩, .int .i64 0] 29 (0, 0))) := hO
  have c2 : V.cell? ⟨w.heap.size, 2, none⟩ = some (.string lg) := bcell HA.out rfl
  have c3 : V.cell? ⟨w.heap.size, 3, none⟩ = some (.int .i64 sf) := bcell HA.out rfl
  clear hA hO hlt
  go_enter Tryz.func19, Tryz.ntmps19
  go_wp2_with (go_at_call 55; fail)
  have hrc := rcS.spec_recs (lg.extract 0 (lft sf kp lg.size).toNat) V (by rw [ByteArray.size_extract]; omega)
  have hcv : ∀ t : ByteArray, t = lg.extract 0 (lft sf kp lg.size).toNat → Calls Tryz.prog 55 #[.string t] V fun e w' => ∃ v, e = .returned (.tuple #[v, .int .i64 (endL lg sf kp)]) ∧ Below V.heap.size V w' := fun t ht => by
    rw [ht]
    exact hrc.mono fun e w' ⟨v, h1, _, _, h2⟩ => ⟨v, h1, h2.bel⟩
  clear hrc hW hV
  refine (hcv _ ?_).mono ?_
  · rw [e0.out]; simp
  rintro e w3 ⟨v3, rfl, hb3⟩
  clear c2 c3 hcv
  have hltA : w.heap.size < V.heap.size := (Array.getElem?_eq_some_iff.1 HA.out).1
  have c2 : w3.cell? ⟨w.heap.size, 2, none⟩ = some (.string lg) := bcell (bstay HA.out hb3 hltA) rfl
  have hrp3 := rps.spec_replay (logL lg sf kp) w3 (by unfold logL; rw [ByteArray.size_extract]; omega)
  obtain ⟨h1, _, h2⟩ := end_in lg sf kp
  have hrl : logL lg sf kp = lg.extract 0 (endL lg sf kp).toNat := rfl
  obtain ⟨en, hen⟩ : ∃ en, endL lg sf kp = en := ⟨_, rfl⟩
  have HEN : Hid (endL lg sf kp = en) := hen
  rw [hrl, hen] at hrp3
  obtain ⟨ll, hll⟩ : ∃ ll, lg.extract 0 en.toNat = ll := ⟨_, rfl⟩
  have HLL : Hid (logL lg sf kp = ll) := by unfold Hid; rw [hrl, hen, hll]
  rw [hll] at hrp3
  obtain ⟨yy, hyy⟩ : ∃ yy, rep ll = yy := ⟨_, rfl⟩
  have HYY : Hid (ansY lg sf kp = yy) := by unfold Hid ansY; rw [HLL.out, hyy]
  rw [hyy] at hrp3
  rw [hen] at h1 h2 ⊢
  clear hen hrl hyy
  go_wp2_with (go_at_call 56; fail)
  refine hrp3.mono ?_
  rintro e w4 ⟨v4, rfl, ho4, hb4⟩
  obtain ⟨aa, ac, rfl, hm4⟩ := pmk.mine_of flP.c_len ho4
  clear hrp3 ho4 c2 h1 h2
  have hB34 : Below V.heap.size V w4 := hb3.trans (hb4.mono hb3.size)
  have hltO : W.heap.size < V.heap.size := (Array.getElem?_eq_some_iff.1 HO.out).1
  have hO4 := bstay HO.out hB34 hltO
  have f0 := bfree hO4 0
  have f1 := bfree hO4 1
  have f2 := bfree hO4 2
  have f3 := bfree hO4 3
  have x0 : w4.cell? ⟨W.heap.size, 0, none⟩ = some (.slice none 0 0) := bcell hO4 rfl
  have x1 : w4.cell? ⟨W.heap.size, 1, none⟩ = some (.slice none 0 0) := bcell hO4 rfl
  have x2 : w4.cell? ⟨W.heap.size, 2, none⟩ = some (.string ⟨#[]⟩) := bcell hO4 rfl
  have x3 : w4.cell? ⟨W.heap.size, 3, none⟩ = some (.int .i64 0) := bcell hO4 rfl
  clear hb4
  go_wp2
  have hm5 : MP ((((w4.setCell ⟨W.heap.size, 0, none⟩ (.slice aa yy.length ac)).setCell ⟨W.heap.size, 1, none⟩ (.slice none 0 0)).setCell ⟨W.heap.size, 2, none⟩ (.string ll)).setCell ⟨W.heap.size, 3, none⟩ (.int .i64 en)) w.heap.size aa yy := by
    have hbs := hb3.size
    have hb0 := HB0.out.size
    have ht : Tn w4 ((((w4.setCell ⟨W.heap.size, 0, none⟩ (.slice aa yy.length ac)).setCell ⟨W.heap.size, 1, none⟩ (.slice none 0 0)).setCell ⟨W.heap.size, 2, none⟩ (.string ll)).setCell ⟨W.heap.size, 3, none⟩ (.int .i64 en)) (fun k => k = W.heap.size) := ((((Tn.refl w4 (fun k => k = W.heap.size)).set (g := W.heap.size) rfl 0 _).set (g := W.heap.size) rfl 1 _).set (g := W.heap.size) rfl 2 _).set (g := W.heap.size) rfl 3 _
    have h5 := Mine.kept hm4 ht (fun k hk e => by have := (Mine.blk_le hm4 hk).1; omega)
    rcases h5 with e | ⟨g, off, e, hB, hO⟩
    · exact .inl e
    · exact .inr ⟨g, off, e, by omega, hO⟩
  have b5 := bset (bset (bset (bset hO4 0 (.slice aa yy.length ac)) 1 (.slice none 0 0)) 2 (.string ll)) 3 (.int .i64 en)
  have z0 : ((((w4.setCell ⟨W.heap.size, 0, none⟩ (.slice aa yy.length ac)).setCell ⟨W.heap.size, 1, none⟩ (.slice none 0 0)).setCell ⟨W.heap.size, 2, none⟩ (.string ll)).setCell ⟨W.heap.size, 3, none⟩ (.int .i64 en)).cell? ⟨W.heap.size, 0, none⟩ = some (.slice aa yy.length ac) := bcell b5 rfl
  have z1 : ((((w4.setCell ⟨W.heap.size, 0, none⟩ (.slice aa yy.length ac)).setCell ⟨W.heap.size, 1, none⟩ (.slice none 0 0)).setCell ⟨W.heap.size, 2, none⟩ (.string ll)).setCell ⟨W.heap.size, 3, none⟩ (.int .i64 en)).cell? ⟨W.heap.size, 1, none⟩ = some (.slice none 0 0) := bcell b5 rfl
  have z2 : ((((w4.setCell ⟨W.heap.size, 0, none⟩ (.slice aa yy.length ac)).setCell ⟨W.heap.size, 1, none⟩ (.slice none 0 0)).setCell ⟨W.heap.size, 2, none⟩ (.string ll)).setCell ⟨W.heap.size, 3, none⟩ (.int .i64 en)).cell? ⟨W.heap.size, 2, none⟩ = some (.string ll) := bcell b5 rfl
  have z3 : ((((w4.setCell ⟨W.heap.size, 0, none⟩ (.slice aa yy.length ac)).setCell ⟨W.heap.size, 1, none⟩ (.slice none 0 0)).setCell ⟨W.heap.size, 2, none⟩ (.string ll)).setCell ⟨W.heap.size, 3, none⟩ (.int .i64 en)).cell? ⟨W.heap.size, 3, none⟩ = some (.int .i64 en) := bcell b5 rfl
  have hBw4 : Below w.heap.size w w4 := HB0.out.trans ((HB2.out.trans (hB34.mono HB2.out.size)).mono HB0.out.size)
  refine bodyPost_ret (v := .agg #[.slice aa yy.length ac, .slice none 0 0, .string ll, .int .i64 en]) (by simp [results, Tryz.results19, go_sem, z0, z1, z2, z3]) rfl ?_
  refine ⟨aa, ac, by rw [HYY.out, HLL.out, HEN.out], ?_, (((hBw4.setCell HB0.out.size _).setCell HB0.out.size _).setCell HB0.out.size _).setCell HB0.out.size _⟩
  rw [HYY.out]
  exact ta_one hm5

set_option maxRecDepth 100000 in
set_option maxHeartbeats 1000000 in
theorem b2 (ya ra : Option Addr) (yl yc rl rc : Nat) (lg : ByteArray) (sf kp : Int) (w : World) (hlg : lg.size ≤ 1048576) (s0 : sf < 0) (k1 : (lg.size : Int) < kp) (k2 : ¬ 0 < (lg.size : Int)) (e0 : Hid (lft sf kp lg.size = 0)) :
    Calls Tryz.prog 19 #[.agg #[.slice ya yl yc, .slice ra rl rc, .string lg, .int .i64 sf], .int .i64 kp] w fun e w' => CA w lg sf kp e w' := by
  have hA := bnew w #[.slice ya yl yc, .slice ra rl rc, .string lg, .int .i64 sf] 29
  obtain ⟨W, hW⟩ : ∃ W, w.alloc (.cells #[.slice ya yl yc, .slice ra rl rc, .string lg, .int .i64 sf] 29) = W := ⟨_, rfl⟩
  have HB0 : Hid (Below w.heap.size w W) := by unfold Hid; rw [← hW]; exact (Below.refl _ _).alloc (Nat.le_refl _) _
  rw [hW] at hA
  have hlt := (Array.getElem?_eq_some_iff.1 hA).1
  have hO := bnew W #[.slice none 0 0, .slice none 0 0, .string ⟨#[]⟩, .int .i64 0] 29
  obtain ⟨V, hV⟩ : ∃ V, W.alloc (.cells #[.slice none 0 0, .slice none 0 0, .string ⟨#[]⟩, .int .i64 0] 29) = V := ⟨_, rfl⟩
  have HB2 : Hid (Below W.heap.size W V) := by unfold Hid; rw [← hV]; exact (Below.refl _ _).alloc (Nat.le_refl _) _
  rw [hV] at hO
  have HA : Hid (V.heap[w.heap.size]? = some (.cells #[.slice ya yl yc, .slice ra rl rc, .string lg, .int .i64 sf] 29 (0, 0))) := bstay hA HB2.out hlt
  have HO : Hid (V.heap[W.heap.size]? = some (.cells #[.slice none 0 0, .slice none 0 0, .string ⟨#[]⟩, .int .i64 0] 29 (0, 0))) := hO
  have c2 : V.cell? ⟨w.heap.size, 2, none⟩ = some (.string lg) := bcell HA.out rfl
  have c3 : V.cell? ⟨w.heap.size, 3, none⟩ = some (.int .i64 sf) := bcell HA.out rfl
  clear hA hO hlt
  go_enter Tryz.func19, Tryz.ntmps19
  go_wp2_with (go_at_call 55; fail)
  have hrc := rcS.spec_recs (lg.extract 0 (lft sf kp lg.size).toNat) V (by rw [ByteArray.size_extract]; omega)
  have hcv : ∀ t : ByteArray, t = lg.extract 0 (lft sf kp lg.size).toNat → Calls Tryz.prog 55 #[.string t] V fun e w' => ∃ v, e = .returned (.tuple #[v, .int .i64 (endL lg sf kp)]) ∧ Below V.heap.size V w' := fun t ht => by
    rw [ht]
    exact hrc.mono fun e w' ⟨v, h1, _, _, h2⟩ => ⟨v, h1, h2.bel⟩
  clear hrc hW hV
  refine (hcv _ ?_).mono ?_
  · rw [e0.out]; simp
  rintro e w3 ⟨v3, rfl, hb3⟩
  clear c2 c3 hcv
  have hltA : w.heap.size < V.heap.size := (Array.getElem?_eq_some_iff.1 HA.out).1
  have c2 : w3.cell? ⟨w.heap.size, 2, none⟩ = some (.string lg) := bcell (bstay HA.out hb3 hltA) rfl
  have hrp3 := rps.spec_replay (logL lg sf kp) w3 (by unfold logL; rw [ByteArray.size_extract]; omega)
  obtain ⟨h1, _, h2⟩ := end_in lg sf kp
  have hrl : logL lg sf kp = lg.extract 0 (endL lg sf kp).toNat := rfl
  obtain ⟨en, hen⟩ : ∃ en, endL lg sf kp = en := ⟨_, rfl⟩
  have HEN : Hid (endL lg sf kp = en) := hen
  rw [hrl, hen] at hrp3
  obtain ⟨ll, hll⟩ : ∃ ll, lg.extract 0 en.toNat = ll := ⟨_, rfl⟩
  have HLL : Hid (logL lg sf kp = ll) := by unfold Hid; rw [hrl, hen, hll]
  rw [hll] at hrp3
  obtain ⟨yy, hyy⟩ : ∃ yy, rep ll = yy := ⟨_, rfl⟩
  have HYY : Hid (ansY lg sf kp = yy) := by unfold Hid ansY; rw [HLL.out, hyy]
  rw [hyy] at hrp3
  rw [hen] at h1 h2 ⊢
  clear hen hrl hyy
  go_wp2_with (go_at_call 56; fail)
  refine hrp3.mono ?_
  rintro e w4 ⟨v4, rfl, ho4, hb4⟩
  obtain ⟨aa, ac, rfl, hm4⟩ := pmk.mine_of flP.c_len ho4
  clear hrp3 ho4 c2 h1 h2
  have hB34 : Below V.heap.size V w4 := hb3.trans (hb4.mono hb3.size)
  have hltO : W.heap.size < V.heap.size := (Array.getElem?_eq_some_iff.1 HO.out).1
  have hO4 := bstay HO.out hB34 hltO
  have f0 := bfree hO4 0
  have f1 := bfree hO4 1
  have f2 := bfree hO4 2
  have f3 := bfree hO4 3
  have x0 : w4.cell? ⟨W.heap.size, 0, none⟩ = some (.slice none 0 0) := bcell hO4 rfl
  have x1 : w4.cell? ⟨W.heap.size, 1, none⟩ = some (.slice none 0 0) := bcell hO4 rfl
  have x2 : w4.cell? ⟨W.heap.size, 2, none⟩ = some (.string ⟨#[]⟩) := bcell hO4 rfl
  have x3 : w4.cell? ⟨W.heap.size, 3, none⟩ = some (.int .i64 0) := bcell hO4 rfl
  clear hb4
  go_wp2
  have hm5 : MP ((((w4.setCell ⟨W.heap.size, 0, none⟩ (.slice aa yy.length ac)).setCell ⟨W.heap.size, 1, none⟩ (.slice none 0 0)).setCell ⟨W.heap.size, 2, none⟩ (.string ll)).setCell ⟨W.heap.size, 3, none⟩ (.int .i64 en)) w.heap.size aa yy := by
    have hbs := hb3.size
    have hb0 := HB0.out.size
    have ht : Tn w4 ((((w4.setCell ⟨W.heap.size, 0, none⟩ (.slice aa yy.length ac)).setCell ⟨W.heap.size, 1, none⟩ (.slice none 0 0)).setCell ⟨W.heap.size, 2, none⟩ (.string ll)).setCell ⟨W.heap.size, 3, none⟩ (.int .i64 en)) (fun k => k = W.heap.size) := ((((Tn.refl w4 (fun k => k = W.heap.size)).set (g := W.heap.size) rfl 0 _).set (g := W.heap.size) rfl 1 _).set (g := W.heap.size) rfl 2 _).set (g := W.heap.size) rfl 3 _
    have h5 := Mine.kept hm4 ht (fun k hk e => by have := (Mine.blk_le hm4 hk).1; omega)
    rcases h5 with e | ⟨g, off, e, hB, hO⟩
    · exact .inl e
    · exact .inr ⟨g, off, e, by omega, hO⟩
  have b5 := bset (bset (bset (bset hO4 0 (.slice aa yy.length ac)) 1 (.slice none 0 0)) 2 (.string ll)) 3 (.int .i64 en)
  have z0 : ((((w4.setCell ⟨W.heap.size, 0, none⟩ (.slice aa yy.length ac)).setCell ⟨W.heap.size, 1, none⟩ (.slice none 0 0)).setCell ⟨W.heap.size, 2, none⟩ (.string ll)).setCell ⟨W.heap.size, 3, none⟩ (.int .i64 en)).cell? ⟨W.heap.size, 0, none⟩ = some (.slice aa yy.length ac) := bcell b5 rfl
  have z1 : ((((w4.setCell ⟨W.heap.size, 0, none⟩ (.slice aa yy.length ac)).setCell ⟨W.heap.size, 1, none⟩ (.slice none 0 0)).setCell ⟨W.heap.size, 2, none⟩ (.string ll)).setCell ⟨W.heap.size, 3, none⟩ (.int .i64 en)).cell? ⟨W.heap.size, 1, none⟩ = some (.slice none 0 0) := bcell b5 rfl
  have z2 : ((((w4.setCell ⟨W.heap.size, 0, none⟩ (.slice aa yy.length ac)).setCell ⟨W.heap.size, 1, none⟩ (.slice none 0 0)).setCell ⟨W.heap.size, 2, none⟩ (.string ll)).setCell ⟨W.heap.size, 3, none⟩ (.int .i64 en)).cell? ⟨W.heap.size, 2, none⟩ = some (.string ll) := bcell b5 rfl
  have z3 : ((((w4.setCell ⟨W.heap.size, 0, none⟩ (.slice aa yy.length ac)).setCell ⟨W.heap.size, 1, none⟩ (.slice none 0 0)).setCell ⟨W.heap.size, 2, none⟩ (.string ll)).setCell ⟨W.heap.size, 3, none⟩ (.int .i64 en)).cell? ⟨W.heap.size, 3, none⟩ = some (.int .i64 en) := bcell b5 rfl
  have hBw4 : Below w.heap.size w w4 := HB0.out.trans ((HB2.out.trans (hB34.mono HB2.out.size)).mono HB0.out.size)
  refine bodyPost_ret (v := .agg #[.slice aa yy.length ac, .slice none 0 0, .string ll, .int .i64 en]) (by simp [results, Tryz.results19, go_sem, z0, z1, z2, z3]) rfl ?_
  refine ⟨aa, ac, by rw [HYY.out, HLL.out, HEN.out], ?_, (((hBw4.setCell HB0.out.size _).setCell HB0.out.size _).setCell HB0.out.size _).setCell HB0.out.size _⟩
  rw [HYY.out]
  exact ta_one hm5

set_option maxRecDepth 100000 in
set_option maxHeartbeats 1000000 in
theorem b3 (ya ra : Option Addr) (yl yc rl rc : Nat) (lg : ByteArray) (sf kp : Int) (w : World) (hlg : lg.size ≤ 1048576) (s0 : sf < 0) (k1 : ¬ (lg.size : Int) < kp) (k2 : 0 < kp) (e0 : Hid (lft sf kp lg.size = kp)) :
    Calls Tryz.prog 19 #[.agg #[.slice ya yl yc, .slice ra rl rc, .string lg, .int .i64 sf], .int .i64 kp] w fun e w' => CA w lg sf kp e w' := by
  have hA := bnew w #[.slice ya yl yc, .slice ra rl rc, .string lg, .int .i64 sf] 29
  obtain ⟨W, hW⟩ : ∃ W, w.alloc (.cells #[.slice ya yl yc, .slice ra rl rc, .string lg, .int .i64 sf] 29) = W := ⟨_, rfl⟩
  have HB0 : Hid (Below w.heap.size w W) := by unfold Hid; rw [← hW]; exact (Below.refl _ _).alloc (Nat.le_refl _) _
  rw [hW] at hA
  have hlt := (Array.getElem?_eq_some_iff.1 hA).1
  have hO := bnew W #[.slice none 0 0, .slice none 0 0, .string ⟨#[]⟩, .int .i64 0] 29
  obtain ⟨V, hV⟩ : ∃ V, W.alloc (.cells #[.slice none 0 0, .slice none 0 0, .string ⟨#[]⟩, .int .i64 0] 29) = V := ⟨_, rfl⟩
  have HB2 : Hid (Below W.heap.size W V) := by unfold Hid; rw [← hV]; exact (Below.refl _ _).alloc (Nat.le_refl _) _
  rw [hV] at hO
  have HA : Hid (V.heap[w.heap.size]? = some (.cells #[.slice ya yl yc, .slice ra rl rc, .string lg, .int .i64 sf] 29 (0, 0))) := bstay hA HB2.out hlt
  have HO : Hid (V.heap[W.heap.size]? = some (.cells #[.slice none 0 0, .slice none 0 0, .string ⟨#[]⟩, .int .i64 0] 29 (0, 0))) := hO
  have c2 : V.cell? ⟨w.heap.size, 2, none⟩ = some (.string lg) := bcell HA.out rfl
  have c3 : V.cell? ⟨w.heap.size, 3, none⟩ = some (.int .i64 sf) := bcell HA.out rfl
  clear hA hO hlt
  go_enter Tryz.func19, Tryz.ntmps19
  go_wp2_with (go_at_call 55; fail)
  have hrc := rcS.spec_recs (lg.extract 0 (lft sf kp lg.size).toNat) V (by rw [ByteArray.size_extract]; omega)
  have hcv : ∀ t : ByteArray, t = lg.extract 0 (lft sf kp lg.size).toNat → Calls Tryz.prog 55 #[.string t] V fun e w' => ∃ v, e = .returned (.tuple #[v, .int .i64 (endL lg sf kp)]) ∧ Below V.heap.size V w' := fun t ht => by
    rw [ht]
    exact hrc.mono fun e w' ⟨v, h1, _, _, h2⟩ => ⟨v, h1, h2.bel⟩
  clear hrc hW hV
  refine (hcv _ ?_).mono ?_
  · rw [e0.out]
  rintro e w3 ⟨v3, rfl, hb3⟩
  clear c2 c3 hcv
  have hltA : w.heap.size < V.heap.size := (Array.getElem?_eq_some_iff.1 HA.out).1
  have c2 : w3.cell? ⟨w.heap.size, 2, none⟩ = some (.string lg) := bcell (bstay HA.out hb3 hltA) rfl
  have hrp3 := rps.spec_replay (logL lg sf kp) w3 (by unfold logL; rw [ByteArray.size_extract]; omega)
  obtain ⟨h1, _, h2⟩ := end_in lg sf kp
  have hrl : logL lg sf kp = lg.extract 0 (endL lg sf kp).toNat := rfl
  obtain ⟨en, hen⟩ : ∃ en, endL lg sf kp = en := ⟨_, rfl⟩
  have HEN : Hid (endL lg sf kp = en) := hen
  rw [hrl, hen] at hrp3
  obtain ⟨ll, hll⟩ : ∃ ll, lg.extract 0 en.toNat = ll := ⟨_, rfl⟩
  have HLL : Hid (logL lg sf kp = ll) := by unfold Hid; rw [hrl, hen, hll]
  rw [hll] at hrp3
  obtain ⟨yy, hyy⟩ : ∃ yy, rep ll = yy := ⟨_, rfl⟩
  have HYY : Hid (ansY lg sf kp = yy) := by unfold Hid ansY; rw [HLL.out, hyy]
  rw [hyy] at hrp3
  rw [hen] at h1 h2 ⊢
  clear hen hrl hyy
  go_wp2_with (go_at_call 56; fail)
  refine hrp3.mono ?_
  rintro e w4 ⟨v4, rfl, ho4, hb4⟩
  obtain ⟨aa, ac, rfl, hm4⟩ := pmk.mine_of flP.c_len ho4
  clear hrp3 ho4 c2 h1 h2
  have hB34 : Below V.heap.size V w4 := hb3.trans (hb4.mono hb3.size)
  have hltO : W.heap.size < V.heap.size := (Array.getElem?_eq_some_iff.1 HO.out).1
  have hO4 := bstay HO.out hB34 hltO
  have f0 := bfree hO4 0
  have f1 := bfree hO4 1
  have f2 := bfree hO4 2
  have f3 := bfree hO4 3
  have x0 : w4.cell? ⟨W.heap.size, 0, none⟩ = some (.slice none 0 0) := bcell hO4 rfl
  have x1 : w4.cell? ⟨W.heap.size, 1, none⟩ = some (.slice none 0 0) := bcell hO4 rfl
  have x2 : w4.cell? ⟨W.heap.size, 2, none⟩ = some (.string ⟨#[]⟩) := bcell hO4 rfl
  have x3 : w4.cell? ⟨W.heap.size, 3, none⟩ = some (.int .i64 0) := bcell hO4 rfl
  clear hb4
  go_wp2
  have hm5 : MP ((((w4.setCell ⟨W.heap.size, 0, none⟩ (.slice aa yy.length ac)).setCell ⟨W.heap.size, 1, none⟩ (.slice none 0 0)).setCell ⟨W.heap.size, 2, none⟩ (.string ll)).setCell ⟨W.heap.size, 3, none⟩ (.int .i64 en)) w.heap.size aa yy := by
    have hbs := hb3.size
    have hb0 := HB0.out.size
    have ht : Tn w4 ((((w4.setCell ⟨W.heap.size, 0, none⟩ (.slice aa yy.length ac)).setCell ⟨W.heap.size, 1, none⟩ (.slice none 0 0)).setCell ⟨W.heap.size, 2, none⟩ (.string ll)).setCell ⟨W.heap.size, 3, none⟩ (.int .i64 en)) (fun k => k = W.heap.size) := ((((Tn.refl w4 (fun k => k = W.heap.size)).set (g := W.heap.size) rfl 0 _).set (g := W.heap.size) rfl 1 _).set (g := W.heap.size) rfl 2 _).set (g := W.heap.size) rfl 3 _
    have h5 := Mine.kept hm4 ht (fun k hk e => by have := (Mine.blk_le hm4 hk).1; omega)
    rcases h5 with e | ⟨g, off, e, hB, hO⟩
    · exact .inl e
    · exact .inr ⟨g, off, e, by omega, hO⟩
  have b5 := bset (bset (bset (bset hO4 0 (.slice aa yy.length ac)) 1 (.slice none 0 0)) 2 (.string ll)) 3 (.int .i64 en)
  have z0 : ((((w4.setCell ⟨W.heap.size, 0, none⟩ (.slice aa yy.length ac)).setCell ⟨W.heap.size, 1, none⟩ (.slice none 0 0)).setCell ⟨W.heap.size, 2, none⟩ (.string ll)).setCell ⟨W.heap.size, 3, none⟩ (.int .i64 en)).cell? ⟨W.heap.size, 0, none⟩ = some (.slice aa yy.length ac) := bcell b5 rfl
  have z1 : ((((w4.setCell ⟨W.heap.size, 0, none⟩ (.slice aa yy.length ac)).setCell ⟨W.heap.size, 1, none⟩ (.slice none 0 0)).setCell ⟨W.heap.size, 2, none⟩ (.string ll)).setCell ⟨W.heap.size, 3, none⟩ (.int .i64 en)).cell? ⟨W.heap.size, 1, none⟩ = some (.slice none 0 0) := bcell b5 rfl
  have z2 : ((((w4.setCell ⟨W.heap.size, 0, none⟩ (.slice aa yy.length ac)).setCell ⟨W.heap.size, 1, none⟩ (.slice none 0 0)).setCell ⟨W.heap.size, 2, none⟩ (.string ll)).setCell ⟨W.heap.size, 3, none⟩ (.int .i64 en)).cell? ⟨W.heap.size, 2, none⟩ = some (.string ll) := bcell b5 rfl
  have z3 : ((((w4.setCell ⟨W.heap.size, 0, none⟩ (.slice aa yy.length ac)).setCell ⟨W.heap.size, 1, none⟩ (.slice none 0 0)).setCell ⟨W.heap.size, 2, none⟩ (.string ll)).setCell ⟨W.heap.size, 3, none⟩ (.int .i64 en)).cell? ⟨W.heap.size, 3, none⟩ = some (.int .i64 en) := bcell b5 rfl
  have hBw4 : Below w.heap.size w w4 := HB0.out.trans ((HB2.out.trans (hB34.mono HB2.out.size)).mono HB0.out.size)
  refine bodyPost_ret (v := .agg #[.slice aa yy.length ac, .slice none 0 0, .string ll, .int .i64 en]) (by simp [results, Tryz.results19, go_sem, z0, z1, z2, z3]) rfl ?_
  refine ⟨aa, ac, by rw [HYY.out, HLL.out, HEN.out], ?_, (((hBw4.setCell HB0.out.size _).setCell HB0.out.size _).setCell HB0.out.size _).setCell HB0.out.size _⟩
  rw [HYY.out]
  exact ta_one hm5

set_option maxRecDepth 100000 in
set_option maxHeartbeats 1000000 in
theorem b4 (ya ra : Option Addr) (yl yc rl rc : Nat) (lg : ByteArray) (sf kp : Int) (w : World) (hlg : lg.size ≤ 1048576) (s0 : sf < 0) (k1 : ¬ (lg.size : Int) < kp) (k2 : ¬ 0 < kp) (e0 : Hid (lft sf kp lg.size = 0)) :
    Calls Tryz.prog 19 #[.agg #[.slice ya yl yc, .slice ra rl rc, .string lg, .int .i64 sf], .int .i64 kp] w fun e w' => CA w lg sf kp e w' := by
  have hA := bnew w #[.slice ya yl yc, .slice ra rl rc, .string lg, .int .i64 sf] 29
  obtain ⟨W, hW⟩ : ∃ W, w.alloc (.cells #[.slice ya yl yc, .slice ra rl rc, .string lg, .int .i64 sf] 29) = W := ⟨_, rfl⟩
  have HB0 : Hid (Below w.heap.size w W) := by unfold Hid; rw [← hW]; exact (Below.refl _ _).alloc (Nat.le_refl _) _
  rw [hW] at hA
  have hlt := (Array.getElem?_eq_some_iff.1 hA).1
  have hO := bnew W #[.slice none 0 0, .slice none 0 0, .string ⟨#[]⟩, .int .i64 0] 29
  obtain ⟨V, hV⟩ : ∃ V, W.alloc (.cells #[.slice none 0 0, .slice none 0 0, .string ⟨#[]⟩, .int .i64 0] 29) = V := ⟨_, rfl⟩
  have HB2 : Hid (Below W.heap.size W V) := by unfold Hid; rw [← hV]; exact (Below.refl _ _).alloc (Nat.le_refl _) _
  rw [hV] at hO
  have HA : Hid (V.heap[w.heap.size]? = some (.cells #[.slice ya yl yc, .slice ra rl rc, .string lg, .int .i64 sf] 29 (0, 0))) := bstay hA HB2.out hlt
  have HO : Hid (V.heap[W.heap.size]? = some (.cells #[.slice none 0 0, .slice none 0 0, .string ⟨#[]⟩, .int .i64 0] 29 (0, 0))) := hO
  have c2 : V.cell? ⟨w.heap.size, 2, none⟩ = some (.string lg) := bcell HA.out rfl
  have c3 : V.cell? ⟨w.heap.size, 3, none⟩ = some (.int .i64 sf) := bcell HA.out rfl
  clear hA hO hlt
  go_enter Tryz.func19, Tryz.ntmps19
  go_wp2_with (go_at_call 55; fail)
  have hrc := rcS.spec_recs (lg.extract 0 (lft sf kp lg.size).toNat) V (by rw [ByteArray.size_extract]; omega)
  have hcv : ∀ t : ByteArray, t = lg.extract 0 (lft sf kp lg.size).toNat → Calls Tryz.prog 55 #[.string t] V fun e w' => ∃ v, e = .returned (.tuple #[v, .int .i64 (endL lg sf kp)]) ∧ Below V.heap.size V w' := fun t ht => by
    rw [ht]
    exact hrc.mono fun e w' ⟨v, h1, _, _, h2⟩ => ⟨v, h1, h2.bel⟩
  clear hrc hW hV
  refine (hcv _ ?_).mono ?_
  · rw [e0.out]; simp
  rintro e w3 ⟨v3, rfl, hb3⟩
  clear c2 c3 hcv
  have hltA : w.heap.size < V.heap.size := (Array.getElem?_eq_some_iff.1 HA.out).1
  have c2 : w3.cell? ⟨w.heap.size, 2, none⟩ = some (.string lg) := bcell (bstay HA.out hb3 hltA) rfl
  have hrp3 := rps.spec_replay (logL lg sf kp) w3 (by unfold logL; rw [ByteArray.size_extract]; omega)
  obtain ⟨h1, _, h2⟩ := end_in lg sf kp
  have hrl : logL lg sf kp = lg.extract 0 (endL lg sf kp).toNat := rfl
  obtain ⟨en, hen⟩ : ∃ en, endL lg sf kp = en := ⟨_, rfl⟩
  have HEN : Hid (endL lg sf kp = en) := hen
  rw [hrl, hen] at hrp3
  obtain ⟨ll, hll⟩ : ∃ ll, lg.extract 0 en.toNat = ll := ⟨_, rfl⟩
  have HLL : Hid (logL lg sf kp = ll) := by unfold Hid; rw [hrl, hen, hll]
  rw [hll] at hrp3
  obtain ⟨yy, hyy⟩ : ∃ yy, rep ll = yy := ⟨_, rfl⟩
  have HYY : Hid (ansY lg sf kp = yy) := by unfold Hid ansY; rw [HLL.out, hyy]
  rw [hyy] at hrp3
  rw [hen] at h1 h2 ⊢
  clear hen hrl hyy
  go_wp2_with (go_at_call 56; fail)
  refine hrp3.mono ?_
  rintro e w4 ⟨v4, rfl, ho4, hb4⟩
  obtain ⟨aa, ac, rfl, hm4⟩ := pmk.mine_of flP.c_len ho4
  clear hrp3 ho4 c2 h1 h2
  have hB34 : Below V.heap.size V w4 := hb3.trans (hb4.mono hb3.size)
  have hltO : W.heap.size < V.heap.size := (Array.getElem?_eq_some_iff.1 HO.out).1
  have hO4 := bstay HO.out hB34 hltO
  have f0 := bfree hO4 0
  have f1 := bfree hO4 1
  have f2 := bfree hO4 2
  have f3 := bfree hO4 3
  have x0 : w4.cell? ⟨W.heap.size, 0, none⟩ = some (.slice none 0 0) := bcell hO4 rfl
  have x1 : w4.cell? ⟨W.heap.size, 1, none⟩ = some (.slice none 0 0) := bcell hO4 rfl
  have x2 : w4.cell? ⟨W.heap.size, 2, none⟩ = some (.string ⟨#[]⟩) := bcell hO4 rfl
  have x3 : w4.cell? ⟨W.heap.size, 3, none⟩ = some (.int .i64 0) := bcell hO4 rfl
  clear hb4
  go_wp2
  have hm5 : MP ((((w4.setCell ⟨W.heap.size, 0, none⟩ (.slice aa yy.length ac)).setCell ⟨W.heap.size, 1, none⟩ (.slice none 0 0)).setCell ⟨W.heap.size, 2, none⟩ (.string ll)).setCell ⟨W.heap.size, 3, none⟩ (.int .i64 en)) w.heap.size aa yy := by
    have hbs := hb3.size
    have hb0 := HB0.out.size
    have ht : Tn w4 ((((w4.setCell ⟨W.heap.size, 0, none⟩ (.slice aa yy.length ac)).setCell ⟨W.heap.size, 1, none⟩ (.slice none 0 0)).setCell ⟨W.heap.size, 2, none⟩ (.string ll)).setCell ⟨W.heap.size, 3, none⟩ (.int .i64 en)) (fun k => k = W.heap.size) := ((((Tn.refl w4 (fun k => k = W.heap.size)).set (g := W.heap.size) rfl 0 _).set (g := W.heap.size) rfl 1 _).set (g := W.heap.size) rfl 2 _).set (g := W.heap.size) rfl 3 _
    have h5 := Mine.kept hm4 ht (fun k hk e => by have := (Mine.blk_le hm4 hk).1; omega)
    rcases h5 with e | ⟨g, off, e, hB, hO⟩
    · exact .inl e
    · exact .inr ⟨g, off, e, by omega, hO⟩
  have b5 := bset (bset (bset (bset hO4 0 (.slice aa yy.length ac)) 1 (.slice none 0 0)) 2 (.string ll)) 3 (.int .i64 en)
  have z0 : ((((w4.setCell ⟨W.heap.size, 0, none⟩ (.slice aa yy.length ac)).setCell ⟨W.heap.size, 1, none⟩ (.slice none 0 0)).setCell ⟨W.heap.size, 2, none⟩ (.string ll)).setCell ⟨W.heap.size, 3, none⟩ (.int .i64 en)).cell? ⟨W.heap.size, 0, none⟩ = some (.slice aa yy.length ac) := bcell b5 rfl
  have z1 : ((((w4.setCell ⟨W.heap.size, 0, none⟩ (.slice aa yy.length ac)).setCell ⟨W.heap.size, 1, none⟩ (.slice none 0 0)).setCell ⟨W.heap.size, 2, none⟩ (.string ll)).setCell ⟨W.heap.size, 3, none⟩ (.int .i64 en)).cell? ⟨W.heap.size, 1, none⟩ = some (.slice none 0 0) := bcell b5 rfl
  have z2 : ((((w4.setCell ⟨W.heap.size, 0, none⟩ (.slice aa yy.length ac)).setCell ⟨W.heap.size, 1, none⟩ (.slice none 0 0)).setCell ⟨W.heap.size, 2, none⟩ (.string ll)).setCell ⟨W.heap.size, 3, none⟩ (.int .i64 en)).cell? ⟨W.heap.size, 2, none⟩ = some (.string ll) := bcell b5 rfl
  have z3 : ((((w4.setCell ⟨W.heap.size, 0, none⟩ (.slice aa yy.length ac)).setCell ⟨W.heap.size, 1, none⟩ (.slice none 0 0)).setCell ⟨W.heap.size, 2, none⟩ (.string ll)).setCell ⟨W.heap.size, 3, none⟩ (.int .i64 en)).cell? ⟨W.heap.size, 3, none⟩ = some (.int .i64 en) := bcell b5 rfl
  have hBw4 : Below w.heap.size w w4 := HB0.out.trans ((HB2.out.trans (hB34.mono HB2.out.size)).mono HB0.out.size)
  refine bodyPost_ret (v := .agg #[.slice aa yy.length ac, .slice none 0 0, .string ll, .int .i64 en]) (by simp [results, Tryz.results19, go_sem, z0, z1, z2, z3]) rfl ?_
  refine ⟨aa, ac, by rw [HYY.out, HLL.out, HEN.out], ?_, (((hBw4.setCell HB0.out.size _).setCell HB0.out.size _).setCell HB0.out.size _).setCell HB0.out.size _⟩
  rw [HYY.out]
  exact ta_one hm5

set_option maxRecDepth 100000 in
set_option maxHeartbeats 1000000 in
theorem b5 (ya ra : Option Addr) (yl yc rl rc : Nat) (lg : ByteArray) (sf kp : Int) (w : World) (hlg : lg.size ≤ 1048576) (s0 : ¬ sf < 0) (s1 : (lg.size : Int) < sf) (k1 : 0 < kp) (e0 : Hid (lft sf kp lg.size = (lg.size : Int))) :
    Calls Tryz.prog 19 #[.agg #[.slice ya yl yc, .slice ra rl rc, .string lg, .int .i64 sf], .int .i64 kp] w fun e w' => CA w lg sf kp e w' := by
  have hA := bnew w #[.slice ya yl yc, .slice ra rl rc, .string lg, .int .i64 sf] 29
  obtain ⟨W, hW⟩ : ∃ W, w.alloc (.cells #[.slice ya yl yc, .slice ra rl rc, .string lg, .int .i64 sf] 29) = W := ⟨_, rfl⟩
  have HB0 : Hid (Below w.heap.size w W) := by unfold Hid; rw [← hW]; exact (Below.refl _ _).alloc (Nat.le_refl _) _
  rw [hW] at hA
  have hlt := (Array.getElem?_eq_some_iff.1 hA).1
  have hO := bnew W #[.slice none 0 0, .slice none 0 0, .string ⟨#[]⟩, .int .i64 0] 29
  obtain ⟨V, hV⟩ : ∃ V, W.alloc (.cells #[.slice none 0 0, .slice none 0 0, .string ⟨#[]⟩, .int .i64 0] 29) = V := ⟨_, rfl⟩
  have HB2 : Hid (Below W.heap.size W V) := by unfold Hid; rw [← hV]; exact (Below.refl _ _).alloc (Nat.le_refl _) _
  rw [hV] at hO
  have HA : Hid (V.heap[w.heap.size]? = some (.cells #[.slice ya yl yc, .slice ra rl rc, .string lg, .int .i64 sf] 29 (0, 0))) := bstay hA HB2.out hlt
  have HO : Hid (V.heap[W.heap.size]? = some (.cells #[.slice none 0 0, .slice none 0 0, .string ⟨#[]⟩, .int .i64 0] 29 (0, 0))) := hO
  have c2 : V.cell? ⟨w.heap.size, 2, none⟩ = some (.string lg) := bcell HA.out rfl
  have c3 : V.cell? ⟨w.heap.size, 3, none⟩ = some (.int .i64 sf) := bcell HA.out rfl
  clear hA hO hlt
  go_enter Tryz.func19, Tryz.ntmps19
  go_wp2_with (go_at_call 55; fail)
  have hrc := rcS.spec_recs (lg.extract 0 (lft sf kp lg.size).toNat) V (by rw [ByteArray.size_extract]; omega)
  have hcv : ∀ t : ByteArray, t = lg.extract 0 (lft sf kp lg.size).toNat → Calls Tryz.prog 55 #[.string t] V fun e w' => ∃ v, e = .returned (.tuple #[v, .int .i64 (endL lg sf kp)]) ∧ Below V.heap.size V w' := fun t ht => by
    rw [ht]
    exact hrc.mono fun e w' ⟨v, h1, _, _, h2⟩ => ⟨v, h1, h2.bel⟩
  clear hrc hW hV
  refine (hcv _ ?_).mono ?_
  · rw [e0.out]; simp
  rintro e w3 ⟨v3, rfl, hb3⟩
  clear c2 c3 hcv
  have hltA : w.heap.size < V.heap.size := (Array.getElem?_eq_some_iff.1 HA.out).1
  have c2 : w3.cell? ⟨w.heap.size, 2, none⟩ = some (.string lg) := bcell (bstay HA.out hb3 hltA) rfl
  have hrp3 := rps.spec_replay (logL lg sf kp) w3 (by unfold logL; rw [ByteArray.size_extract]; omega)
  obtain ⟨h1, _, h2⟩ := end_in lg sf kp
  have hrl : logL lg sf kp = lg.extract 0 (endL lg sf kp).toNat := rfl
  obtain ⟨en, hen⟩ : ∃ en, endL lg sf kp = en := ⟨_, rfl⟩
  have HEN : Hid (endL lg sf kp = en) := hen
  rw [hrl, hen] at hrp3
  obtain ⟨ll, hll⟩ : ∃ ll, lg.extract 0 en.toNat = ll := ⟨_, rfl⟩
  have HLL : Hid (logL lg sf kp = ll) := by unfold Hid; rw [hrl, hen, hll]
  rw [hll] at hrp3
  obtain ⟨yy, hyy⟩ : ∃ yy, rep ll = yy := ⟨_, rfl⟩
  have HYY : Hid (ansY lg sf kp = yy) := by unfold Hid ansY; rw [HLL.out, hyy]
  rw [hyy] at hrp3
  rw [hen] at h1 h2 ⊢
  clear hen hrl hyy
  go_wp2_with (go_at_call 56; fail)
  refine hrp3.mono ?_
  rintro e w4 ⟨v4, rfl, ho4, hb4⟩
  obtain ⟨aa, ac, rfl, hm4⟩ := pmk.mine_of flP.c_len ho4
  clear hrp3 ho4 c2 h1 h2
  have hB34 : Below V.heap.size V w4 := hb3.trans (hb4.mono hb3.size)
  have hltO : W.heap.size < V.heap.size := (Array.getElem?_eq_some_iff.1 HO.out).1
  have hO4 := bstay HO.out hB34 hltO
  have f0 := bfree hO4 0
  have f1 := bfree hO4 1
  have f2 := bfree hO4 2
  have f3 := bfree hO4 3
  have x0 : w4.cell? ⟨W.heap.size, 0, none⟩ = some (.slice none 0 0) := bcell hO4 rfl
  have x1 : w4.cell? ⟨W.heap.size, 1, none⟩ = some (.slice none 0 0) := bcell hO4 rfl
  have x2 : w4.cell? ⟨W.heap.size, 2, none⟩ = some (.string ⟨#[]⟩) := bcell hO4 rfl
  have x3 : w4.cell? ⟨W.heap.size, 3, none⟩ = some (.int .i64 0) := bcell hO4 rfl
  clear hb4
  go_wp2
  have hm5 : MP ((((w4.setCell ⟨W.heap.size, 0, none⟩ (.slice aa yy.length ac)).setCell ⟨W.heap.size, 1, none⟩ (.slice none 0 0)).setCell ⟨W.heap.size, 2, none⟩ (.string ll)).setCell ⟨W.heap.size, 3, none⟩ (.int .i64 en)) w.heap.size aa yy := by
    have hbs := hb3.size
    have hb0 := HB0.out.size
    have ht : Tn w4 ((((w4.setCell ⟨W.heap.size, 0, none⟩ (.slice aa yy.length ac)).setCell ⟨W.heap.size, 1, none⟩ (.slice none 0 0)).setCell ⟨W.heap.size, 2, none⟩ (.string ll)).setCell ⟨W.heap.size, 3, none⟩ (.int .i64 en)) (fun k => k = W.heap.size) := ((((Tn.refl w4 (fun k => k = W.heap.size)).set (g := W.heap.size) rfl 0 _).set (g := W.heap.size) rfl 1 _).set (g := W.heap.size) rfl 2 _).set (g := W.heap.size) rfl 3 _
    have h5 := Mine.kept hm4 ht (fun k hk e => by have := (Mine.blk_le hm4 hk).1; omega)
    rcases h5 with e | ⟨g, off, e, hB, hO⟩
    · exact .inl e
    · exact .inr ⟨g, off, e, by omega, hO⟩
  have b5 := bset (bset (bset (bset hO4 0 (.slice aa yy.length ac)) 1 (.slice none 0 0)) 2 (.string ll)) 3 (.int .i64 en)
  have z0 : ((((w4.setCell ⟨W.heap.size, 0, none⟩ (.slice aa yy.length ac)).setCell ⟨W.heap.size, 1, none⟩ (.slice none 0 0)).setCell ⟨W.heap.size, 2, none⟩ (.string ll)).setCell ⟨W.heap.size, 3, none⟩ (.int .i64 en)).cell? ⟨W.heap.size, 0, none⟩ = some (.slice aa yy.length ac) := bcell b5 rfl
  have z1 : ((((w4.setCell ⟨W.heap.size, 0, none⟩ (.slice aa yy.length ac)).setCell ⟨W.heap.size, 1, none⟩ (.slice none 0 0)).setCell ⟨W.heap.size, 2, none⟩ (.string ll)).setCell ⟨W.heap.size, 3, none⟩ (.int .i64 en)).cell? ⟨W.heap.size, 1, none⟩ = some (.slice none 0 0) := bcell b5 rfl
  have z2 : ((((w4.setCell ⟨W.heap.size, 0, none⟩ (.slice aa yy.length ac)).setCell ⟨W.heap.size, 1, none⟩ (.slice none 0 0)).setCell ⟨W.heap.size, 2, none⟩ (.string ll)).setCell ⟨W.heap.size, 3, none⟩ (.int .i64 en)).cell? ⟨W.heap.size, 2, none⟩ = some (.string ll) := bcell b5 rfl
  have z3 : ((((w4.setCell ⟨W.heap.size, 0, none⟩ (.slice aa yy.length ac)).setCell ⟨W.heap.size, 1, none⟩ (.slice none 0 0)).setCell ⟨W.heap.size, 2, none⟩ (.string ll)).setCell ⟨W.heap.size, 3, none⟩ (.int .i64 en)).cell? ⟨W.heap.size, 3, none⟩ = some (.int .i64 en) := bcell b5 rfl
  have hBw4 : Below w.heap.size w w4 := HB0.out.trans ((HB2.out.trans (hB34.mono HB2.out.size)).mono HB0.out.size)
  refine bodyPost_ret (v := .agg #[.slice aa yy.length ac, .slice none 0 0, .string ll, .int .i64 en]) (by simp [results, Tryz.results19, go_sem, z0, z1, z2, z3]) rfl ?_
  refine ⟨aa, ac, by rw [HYY.out, HLL.out, HEN.out], ?_, (((hBw4.setCell HB0.out.size _).setCell HB0.out.size _).setCell HB0.out.size _).setCell HB0.out.size _⟩
  rw [HYY.out]
  exact ta_one hm5

set_option maxRecDepth 100000 in
set_option maxHeartbeats 1000000 in
theorem b6 (ya ra : Option Addr) (yl yc rl rc : Nat) (lg : ByteArray) (sf kp : Int) (w : World) (hlg : lg.size ≤ 1048576) (s0 : ¬ sf < 0) (s1 : (lg.size : Int) < sf) (k1 : ¬ 0 < kp) (e0 : Hid (lft sf kp lg.size = (lg.size : Int))) :
    Calls Tryz.prog 19 #[.agg #[.slice ya yl yc, .slice ra rl rc, .string lg, .int .i64 sf], .int .i64 kp] w fun e w' => CA w lg sf kp e w' := by
  have hA := bnew w #[.slice ya yl yc, .slice ra rl rc, .string lg, .int .i64 sf] 29
  obtain ⟨W, hW⟩ : ∃ W, w.alloc (.cells #[.slice ya yl yc, .slice ra rl rc, .string lg, .int .i64 sf] 29) = W := ⟨_, rfl⟩
  have HB0 : Hid (Below w.heap.size w W) := by unfold Hid; rw [← hW]; exact (Below.refl _ _).alloc (Nat.le_refl _) _
  rw [hW] at hA
  have hlt := (Array.getElem?_eq_some_iff.1 hA).1
  have hO := bnew W #[.slice none 0 0, .slice none 0 0, .string ⟨#[]⟩, .int .i64 0] 29
  obtain ⟨V, hV⟩ : ∃ V, W.alloc (.cells #[.slice none 0 0, .slice none 0 0, .string ⟨#[]⟩, .int .i64 0] 29) = V := ⟨_, rfl⟩
  have HB2 : Hid (Below W.heap.size W V) := by unfold Hid; rw [← hV]; exact (Below.refl _ _).alloc (Nat.le_refl _) _
  rw [hV] at hO
  have HA : Hid (V.heap[w.heap.size]? = some (.cells #[.slice ya yl yc, .slice ra rl rc, .string lg, .int .i64 sf] 29 (0, 0))) := bstay hA HB2.out hlt
  have HO : Hid (V.heap[W.heap.size]? = some (.cells #[.slice none 0 0, .slice none 0 0, .string ⟨#[]⟩, .int .i64 0] 29 (0, 0))) := hO
  have c2 : V.cell? ⟨w.heap.size, 2, none⟩ = some (.string lg) := bcell HA.out rfl
  have c3 : V.cell? ⟨w.heap.size, 3, none⟩ = some (.int .i64 sf) := bcell HA.out rfl
  clear hA hO hlt
  go_enter Tryz.func19, Tryz.ntmps19
  go_wp2_with (go_at_call 55; fail)
  have hrc := rcS.spec_recs (lg.extract 0 (lft sf kp lg.size).toNat) V (by rw [ByteArray.size_extract]; omega)
  have hcv : ∀ t : ByteArray, t = lg.extract 0 (lft sf kp lg.size).toNat → Calls Tryz.prog 55 #[.string t] V fun e w' => ∃ v, e = .returned (.tuple #[v, .int .i64 (endL lg sf kp)]) ∧ Below V.heap.size V w' := fun t ht => by
    rw [ht]
    exact hrc.mono fun e w' ⟨v, h1, _, _, h2⟩ => ⟨v, h1, h2.bel⟩
  clear hrc hW hV
  refine (hcv _ ?_).mono ?_
  · rw [e0.out]; simp
  rintro e w3 ⟨v3, rfl, hb3⟩
  clear c2 c3 hcv
  have hltA : w.heap.size < V.heap.size := (Array.getElem?_eq_some_iff.1 HA.out).1
  have c2 : w3.cell? ⟨w.heap.size, 2, none⟩ = some (.string lg) := bcell (bstay HA.out hb3 hltA) rfl
  have hrp3 := rps.spec_replay (logL lg sf kp) w3 (by unfold logL; rw [ByteArray.size_extract]; omega)
  obtain ⟨h1, _, h2⟩ := end_in lg sf kp
  have hrl : logL lg sf kp = lg.extract 0 (endL lg sf kp).toNat := rfl
  obtain ⟨en, hen⟩ : ∃ en, endL lg sf kp = en := ⟨_, rfl⟩
  have HEN : Hid (endL lg sf kp = en) := hen
  rw [hrl, hen] at hrp3
  obtain ⟨ll, hll⟩ : ∃ ll, lg.extract 0 en.toNat = ll := ⟨_, rfl⟩
  have HLL : Hid (logL lg sf kp = ll) := by unfold Hid; rw [hrl, hen, hll]
  rw [hll] at hrp3
  obtain ⟨yy, hyy⟩ : ∃ yy, rep ll = yy := ⟨_, rfl⟩
  have HYY : Hid (ansY lg sf kp = yy) := by unfold Hid ansY; rw [HLL.out, hyy]
  rw [hyy] at hrp3
  rw [hen] at h1 h2 ⊢
  clear hen hrl hyy
  go_wp2_with (go_at_call 56; fail)
  refine hrp3.mono ?_
  rintro e w4 ⟨v4, rfl, ho4, hb4⟩
  obtain ⟨aa, ac, rfl, hm4⟩ := pmk.mine_of flP.c_len ho4
  clear hrp3 ho4 c2 h1 h2
  have hB34 : Below V.heap.size V w4 := hb3.trans (hb4.mono hb3.size)
  have hltO : W.heap.size < V.heap.size := (Array.getElem?_eq_some_iff.1 HO.out).1
  have hO4 := bstay HO.out hB34 hltO
  have f0 := bfree hO4 0
  have f1 := bfree hO4 1
  have f2 := bfree hO4 2
  have f3 := bfree hO4 3
  have x0 : w4.cell? ⟨W.heap.size, 0, none⟩ = some (.slice none 0 0) := bcell hO4 rfl
  have x1 : w4.cell? ⟨W.heap.size, 1, none⟩ = some (.slice none 0 0) := bcell hO4 rfl
  have x2 : w4.cell? ⟨W.heap.size, 2, none⟩ = some (.string ⟨#[]⟩) := bcell hO4 rfl
  have x3 : w4.cell? ⟨W.heap.size, 3, none⟩ = some (.int .i64 0) := bcell hO4 rfl
  clear hb4
  go_wp2
  have hm5 : MP ((((w4.setCell ⟨W.heap.size, 0, none⟩ (.slice aa yy.length ac)).setCell ⟨W.heap.size, 1, none⟩ (.slice none 0 0)).setCell ⟨W.heap.size, 2, none⟩ (.string ll)).setCell ⟨W.heap.size, 3, none⟩ (.int .i64 en)) w.heap.size aa yy := by
    have hbs := hb3.size
    have hb0 := HB0.out.size
    have ht : Tn w4 ((((w4.setCell ⟨W.heap.size, 0, none⟩ (.slice aa yy.length ac)).setCell ⟨W.heap.size, 1, none⟩ (.slice none 0 0)).setCell ⟨W.heap.size, 2, none⟩ (.string ll)).setCell ⟨W.heap.size, 3, none⟩ (.int .i64 en)) (fun k => k = W.heap.size) := ((((Tn.refl w4 (fun k => k = W.heap.size)).set (g := W.heap.size) rfl 0 _).set (g := W.heap.size) rfl 1 _).set (g := W.heap.size) rfl 2 _).set (g := W.heap.size) rfl 3 _
    have h5 := Mine.kept hm4 ht (fun k hk e => by have := (Mine.blk_le hm4 hk).1; omega)
    rcases h5 with e | ⟨g, off, e, hB, hO⟩
    · exact .inl e
    · exact .inr ⟨g, off, e, by omega, hO⟩
  have b5 := bset (bset (bset (bset hO4 0 (.slice aa yy.length ac)) 1 (.slice none 0 0)) 2 (.string ll)) 3 (.int .i64 en)
  have z0 : ((((w4.setCell ⟨W.heap.size, 0, none⟩ (.slice aa yy.length ac)).setCell ⟨W.heap.size, 1, none⟩ (.slice none 0 0)).setCell ⟨W.heap.size, 2, none⟩ (.string ll)).setCell ⟨W.heap.size, 3, none⟩ (.int .i64 en)).cell? ⟨W.heap.size, 0, none⟩ = some (.slice aa yy.length ac) := bcell b5 rfl
  have z1 : ((((w4.setCell ⟨W.heap.size, 0, none⟩ (.slice aa yy.length ac)).setCell ⟨W.heap.size, 1, none⟩ (.slice none 0 0)).setCell ⟨W.heap.size, 2, none⟩ (.string ll)).setCell ⟨W.heap.size, 3, none⟩ (.int .i64 en)).cell? ⟨W.heap.size, 1, none⟩ = some (.slice none 0 0) := bcell b5 rfl
  have z2 : ((((w4.setCell ⟨W.heap.size, 0, none⟩ (.slice aa yy.length ac)).setCell ⟨W.heap.size, 1, none⟩ (.slice none 0 0)).setCell ⟨W.heap.size, 2, none⟩ (.string ll)).setCell ⟨W.heap.size, 3, none⟩ (.int .i64 en)).cell? ⟨W.heap.size, 2, none⟩ = some (.string ll) := bcell b5 rfl
  have z3 : ((((w4.setCell ⟨W.heap.size, 0, none⟩ (.slice aa yy.length ac)).setCell ⟨W.heap.size, 1, none⟩ (.slice none 0 0)).setCell ⟨W.heap.size, 2, none⟩ (.string ll)).setCell ⟨W.heap.size, 3, none⟩ (.int .i64 en)).cell? ⟨W.heap.size, 3, none⟩ = some (.int .i64 en) := bcell b5 rfl
  have hBw4 : Below w.heap.size w w4 := HB0.out.trans ((HB2.out.trans (hB34.mono HB2.out.size)).mono HB0.out.size)
  refine bodyPost_ret (v := .agg #[.slice aa yy.length ac, .slice none 0 0, .string ll, .int .i64 en]) (by simp [results, Tryz.results19, go_sem, z0, z1, z2, z3]) rfl ?_
  refine ⟨aa, ac, by rw [HYY.out, HLL.out, HEN.out], ?_, (((hBw4.setCell HB0.out.size _).setCell HB0.out.size _).setCell HB0.out.size _).setCell HB0.out.size _⟩
  rw [HYY.out]
  exact ta_one hm5

set_option maxRecDepth 100000 in
set_option maxHeartbeats 1000000 in
theorem b7 (ya ra : Option Addr) (yl yc rl rc : Nat) (lg : ByteArray) (sf kp : Int) (w : World) (hlg : lg.size ≤ 1048576) (s0 : ¬ sf < 0) (s1 : ¬ (lg.size : Int) < sf) (k1 : (lg.size : Int) - sf < kp) (k2 : 0 < (lg.size : Int) - sf) (e0 : Hid (lft sf kp lg.size = (lg.size : Int))) :
    Calls Tryz.prog 19 #[.agg #[.slice ya yl yc, .slice ra rl rc, .string lg, .int .i64 sf], .int .i64 kp] w fun e w' => CA w lg sf kp e w' := by
  have hA := bnew w #[.slice ya yl yc, .slice ra rl rc, .string lg, .int .i64 sf] 29
  obtain ⟨W, hW⟩ : ∃ W, w.alloc (.cells #[.slice ya yl yc, .slice ra rl rc, .string lg, .int .i64 sf] 29) = W := ⟨_, rfl⟩
  have HB0 : Hid (Below w.heap.size w W) := by unfold Hid; rw [← hW]; exact (Below.refl _ _).alloc (Nat.le_refl _) _
  rw [hW] at hA
  have hlt := (Array.getElem?_eq_some_iff.1 hA).1
  have hO := bnew W #[.slice none 0 0, .slice none 0 0, .string ⟨#[]⟩, .int .i64 0] 29
  obtain ⟨V, hV⟩ : ∃ V, W.alloc (.cells #[.slice none 0 0, .slice none 0 0, .string ⟨#[]⟩, .int .i64 0] 29) = V := ⟨_, rfl⟩
  have HB2 : Hid (Below W.heap.size W V) := by unfold Hid; rw [← hV]; exact (Below.refl _ _).alloc (Nat.le_refl _) _
  rw [hV] at hO
  have HA : Hid (V.heap[w.heap.size]? = some (.cells #[.slice ya yl yc, .slice ra rl rc, .string lg, .int .i64 sf] 29 (0, 0))) := bstay hA HB2.out hlt
  have HO : Hid (V.heap[W.heap.size]? = some (.cells #[.slice none 0 0, .slice none 0 0, .string ⟨#[]⟩, .int .i64 0] 29 (0, 0))) := hO
  have c2 : V.cell? ⟨w.heap.size, 2, none⟩ = some (.string lg) := bcell HA.out rfl
  have c3 : V.cell? ⟨w.heap.size, 3, none⟩ = some (.int .i64 sf) := bcell HA.out rfl
  clear hA hO hlt
  go_enter Tryz.func19, Tryz.ntmps19
  go_wp2_with (go_at_call 55; fail)
  have hrc := rcS.spec_recs (lg.extract 0 (lft sf kp lg.size).toNat) V (by rw [ByteArray.size_extract]; omega)
  have hcv : ∀ t : ByteArray, t = lg.extract 0 (lft sf kp lg.size).toNat → Calls Tryz.prog 55 #[.string t] V fun e w' => ∃ v, e = .returned (.tuple #[v, .int .i64 (endL lg sf kp)]) ∧ Below V.heap.size V w' := fun t ht => by
    rw [ht]
    exact hrc.mono fun e w' ⟨v, h1, _, _, h2⟩ => ⟨v, h1, h2.bel⟩
  clear hrc hW hV
  refine (hcv _ ?_).mono ?_
  · rw [e0.out]; first | (simp; done) | (congr 1; omega) | (congr 2; omega)
  rintro e w3 ⟨v3, rfl, hb3⟩
  clear c2 c3 hcv
  have hltA : w.heap.size < V.heap.size := (Array.getElem?_eq_some_iff.1 HA.out).1
  have c2 : w3.cell? ⟨w.heap.size, 2, none⟩ = some (.string lg) := bcell (bstay HA.out hb3 hltA) rfl
  have hrp3 := rps.spec_replay (logL lg sf kp) w3 (by unfold logL; rw [ByteArray.size_extract]; omega)
  obtain ⟨h1, _, h2⟩ := end_in lg sf kp
  have hrl : logL lg sf kp = lg.extract 0 (endL lg sf kp).toNat := rfl
  obtain ⟨en, hen⟩ : ∃ en, endL lg sf kp = en := ⟨_, rfl⟩
  have HEN : Hid (endL lg sf kp = en) := hen
  rw [hrl, hen] at hrp3
  obtain ⟨ll, hll⟩ : ∃ ll, lg.extract 0 en.toNat = ll := ⟨_, rfl⟩
  have HLL : Hid (logL lg sf kp = ll) := by unfold Hid; rw [hrl, hen, hll]
  rw [hll] at hrp3
  obtain ⟨yy, hyy⟩ : ∃ yy, rep ll = yy := ⟨_, rfl⟩
  have HYY : Hid (ansY lg sf kp = yy) := by unfold Hid ansY; rw [HLL.out, hyy]
  rw [hyy] at hrp3
  rw [hen] at h1 h2 ⊢
  clear hen hrl hyy
  go_wp2_with (go_at_call 56; fail)
  refine hrp3.mono ?_
  rintro e w4 ⟨v4, rfl, ho4, hb4⟩
  obtain ⟨aa, ac, rfl, hm4⟩ := pmk.mine_of flP.c_len ho4
  clear hrp3 ho4 c2 h1 h2
  have hB34 : Below V.heap.size V w4 := hb3.trans (hb4.mono hb3.size)
  have hltO : W.heap.size < V.heap.size := (Array.getElem?_eq_some_iff.1 HO.out).1
  have hO4 := bstay HO.out hB34 hltO
  have f0 := bfree hO4 0
  have f1 := bfree hO4 1
  have f2 := bfree hO4 2
  have f3 := bfree hO4 3
  have x0 : w4.cell? ⟨W.heap.size, 0, none⟩ = some (.slice none 0 0) := bcell hO4 rfl
  have x1 : w4.cell? ⟨W.heap.size, 1, none⟩ = some (.slice none 0 0) := bcell hO4 rfl
  have x2 : w4.cell? ⟨W.heap.size, 2, none⟩ = some (.string ⟨#[]⟩) := bcell hO4 rfl
  have x3 : w4.cell? ⟨W.heap.size, 3, none⟩ = some (.int .i64 0) := bcell hO4 rfl
  clear hb4
  go_wp2
  have hm5 : MP ((((w4.setCell ⟨W.heap.size, 0, none⟩ (.slice aa yy.length ac)).setCell ⟨W.heap.size, 1, none⟩ (.slice none 0 0)).setCell ⟨W.heap.size, 2, none⟩ (.string ll)).setCell ⟨W.heap.size, 3, none⟩ (.int .i64 en)) w.heap.size aa yy := by
    have hbs := hb3.size
    have hb0 := HB0.out.size
    have ht : Tn w4 ((((w4.setCell ⟨W.heap.size, 0, none⟩ (.slice aa yy.length ac)).setCell ⟨W.heap.size, 1, none⟩ (.slice none 0 0)).setCell ⟨W.heap.size, 2, none⟩ (.string ll)).setCell ⟨W.heap.size, 3, none⟩ (.int .i64 en)) (fun k => k = W.heap.size) := ((((Tn.refl w4 (fun k => k = W.heap.size)).set (g := W.heap.size) rfl 0 _).set (g := W.heap.size) rfl 1 _).set (g := W.heap.size) rfl 2 _).set (g := W.heap.size) rfl 3 _
    have h5 := Mine.kept hm4 ht (fun k hk e => by have := (Mine.blk_le hm4 hk).1; omega)
    rcases h5 with e | ⟨g, off, e, hB, hO⟩
    · exact .inl e
    · exact .inr ⟨g, off, e, by omega, hO⟩
  have b5 := bset (bset (bset (bset hO4 0 (.slice aa yy.length ac)) 1 (.slice none 0 0)) 2 (.string ll)) 3 (.int .i64 en)
  have z0 : ((((w4.setCell ⟨W.heap.size, 0, none⟩ (.slice aa yy.length ac)).setCell ⟨W.heap.size, 1, none⟩ (.slice none 0 0)).setCell ⟨W.heap.size, 2, none⟩ (.string ll)).setCell ⟨W.heap.size, 3, none⟩ (.int .i64 en)).cell? ⟨W.heap.size, 0, none⟩ = some (.slice aa yy.length ac) := bcell b5 rfl
  have z1 : ((((w4.setCell ⟨W.heap.size, 0, none⟩ (.slice aa yy.length ac)).setCell ⟨W.heap.size, 1, none⟩ (.slice none 0 0)).setCell ⟨W.heap.size, 2, none⟩ (.string ll)).setCell ⟨W.heap.size, 3, none⟩ (.int .i64 en)).cell? ⟨W.heap.size, 1, none⟩ = some (.slice none 0 0) := bcell b5 rfl
  have z2 : ((((w4.setCell ⟨W.heap.size, 0, none⟩ (.slice aa yy.length ac)).setCell ⟨W.heap.size, 1, none⟩ (.slice none 0 0)).setCell ⟨W.heap.size, 2, none⟩ (.string ll)).setCell ⟨W.heap.size, 3, none⟩ (.int .i64 en)).cell? ⟨W.heap.size, 2, none⟩ = some (.string ll) := bcell b5 rfl
  have z3 : ((((w4.setCell ⟨W.heap.size, 0, none⟩ (.slice aa yy.length ac)).setCell ⟨W.heap.size, 1, none⟩ (.slice none 0 0)).setCell ⟨W.heap.size, 2, none⟩ (.string ll)).setCell ⟨W.heap.size, 3, none⟩ (.int .i64 en)).cell? ⟨W.heap.size, 3, none⟩ = some (.int .i64 en) := bcell b5 rfl
  have hBw4 : Below w.heap.size w w4 := HB0.out.trans ((HB2.out.trans (hB34.mono HB2.out.size)).mono HB0.out.size)
  refine bodyPost_ret (v := .agg #[.slice aa yy.length ac, .slice none 0 0, .string ll, .int .i64 en]) (by simp [results, Tryz.results19, go_sem, z0, z1, z2, z3]) rfl ?_
  refine ⟨aa, ac, by rw [HYY.out, HLL.out, HEN.out], ?_, (((hBw4.setCell HB0.out.size _).setCell HB0.out.size _).setCell HB0.out.size _).setCell HB0.out.size _⟩
  rw [HYY.out]
  exact ta_one hm5

set_option maxRecDepth 100000 in
set_option maxHeartbeats 1000000 in
theorem b8 (ya ra : Option Addr) (yl yc rl rc : Nat) (lg : ByteArray) (sf kp : Int) (w : World) (hlg : lg.size ≤ 1048576) (s0 : ¬ sf < 0) (s1 : ¬ (lg.size : Int) < sf) (k1 : (lg.size : Int) - sf < kp) (k2 : ¬ 0 < (lg.size : Int) - sf) (e0 : Hid (lft sf kp lg.size = sf)) :
    Calls Tryz.prog 19 #[.agg #[.slice ya yl yc, .slice ra rl rc, .string lg, .int .i64 sf], .int .i64 kp] w fun e w' => CA w lg sf kp e w' := by
  have hA := bnew w #[.slice ya yl yc, .slice ra rl rc, .string lg, .int .i64 sf] 29
  obtain ⟨W, hW⟩ : ∃ W, w.alloc (.cells #[.slice ya yl yc, .slice ra rl rc, .string lg, .int .i64 sf] 29) = W := ⟨_, rfl⟩
  have HB0 : Hid (Below w.heap.size w W) := by unfold Hid; rw [← hW]; exact (Below.refl _ _).alloc (Nat.le_refl _) _
  rw [hW] at hA
  have hlt := (Array.getElem?_eq_some_iff.1 hA).1
  have hO := bnew W #[.slice none 0 0, .slice none 0 0, .string ⟨#[]⟩, .int .i64 0] 29
  obtain ⟨V, hV⟩ : ∃ V, W.alloc (.cells #[.slice none 0 0, .slice none 0 0, .string ⟨#[]⟩, .int .i64 0] 29) = V := ⟨_, rfl⟩
  have HB2 : Hid (Below W.heap.size W V) := by unfold Hid; rw [← hV]; exact (Below.refl _ _).alloc (Nat.le_refl _) _
  rw [hV] at hO
  have HA : Hid (V.heap[w.heap.size]? = some (.cells #[.slice ya yl yc, .slice ra rl rc, .string lg, .int .i64 sf] 29 (0, 0))) := bstay hA HB2.out hlt
  have HO : Hid (V.heap[W.heap.size]? = some (.cells #[.slice none 0 0, .slice none 0 0, .string ⟨#[]⟩, .int .i64 0] 29 (0, 0))) := hO
  have c2 : V.cell? ⟨w.heap.size, 2, none⟩ = some (.string lg) := bcell HA.out rfl
  have c3 : V.cell? ⟨w.heap.size, 3, none⟩ = some (.int .i64 sf) := bcell HA.out rfl
  clear hA hO hlt
  go_enter Tryz.func19, Tryz.ntmps19
  go_wp2_with (go_at_call 55; fail)
  have hrc := rcS.spec_recs (lg.extract 0 (lft sf kp lg.size).toNat) V (by rw [ByteArray.size_extract]; omega)
  have hcv : ∀ t : ByteArray, t = lg.extract 0 (lft sf kp lg.size).toNat → Calls Tryz.prog 55 #[.string t] V fun e w' => ∃ v, e = .returned (.tuple #[v, .int .i64 (endL lg sf kp)]) ∧ Below V.heap.size V w' := fun t ht => by
    rw [ht]
    exact hrc.mono fun e w' ⟨v, h1, _, _, h2⟩ => ⟨v, h1, h2.bel⟩
  clear hrc hW hV
  refine (hcv _ ?_).mono ?_
  · rw [e0.out]
  rintro e w3 ⟨v3, rfl, hb3⟩
  clear c2 c3 hcv
  have hltA : w.heap.size < V.heap.size := (Array.getElem?_eq_some_iff.1 HA.out).1
  have c2 : w3.cell? ⟨w.heap.size, 2, none⟩ = some (.string lg) := bcell (bstay HA.out hb3 hltA) rfl
  have hrp3 := rps.spec_replay (logL lg sf kp) w3 (by unfold logL; rw [ByteArray.size_extract]; omega)
  obtain ⟨h1, _, h2⟩ := end_in lg sf kp
  have hrl : logL lg sf kp = lg.extract 0 (endL lg sf kp).toNat := rfl
  obtain ⟨en, hen⟩ : ∃ en, endL lg sf kp = en := ⟨_, rfl⟩
  have HEN : Hid (endL lg sf kp = en) := hen
  rw [hrl, hen] at hrp3
  obtain ⟨ll, hll⟩ : ∃ ll, lg.extract 0 en.toNat = ll := ⟨_, rfl⟩
  have HLL : Hid (logL lg sf kp = ll) := by unfold Hid; rw [hrl, hen, hll]
  rw [hll] at hrp3
  obtain ⟨yy, hyy⟩ : ∃ yy, rep ll = yy := ⟨_, rfl⟩
  have HYY : Hid (ansY lg sf kp = yy) := by unfold Hid ansY; rw [HLL.out, hyy]
  rw [hyy] at hrp3
  rw [hen] at h1 h2 ⊢
  clear hen hrl hyy
  go_wp2_with (go_at_call 56; fail)
  refine hrp3.mono ?_
  rintro e w4 ⟨v4, rfl, ho4, hb4⟩
  obtain ⟨aa, ac, rfl, hm4⟩ := pmk.mine_of flP.c_len ho4
  clear hrp3 ho4 c2 h1 h2
  have hB34 : Below V.heap.size V w4 := hb3.trans (hb4.mono hb3.size)
  have hltO : W.heap.size < V.heap.size := (Array.getElem?_eq_some_iff.1 HO.out).1
  have hO4 := bstay HO.out hB34 hltO
  have f0 := bfree hO4 0
  have f1 := bfree hO4 1
  have f2 := bfree hO4 2
  have f3 := bfree hO4 3
  have x0 : w4.cell? ⟨W.heap.size, 0, none⟩ = some (.slice none 0 0) := bcell hO4 rfl
  have x1 : w4.cell? ⟨W.heap.size, 1, none⟩ = some (.slice none 0 0) := bcell hO4 rfl
  have x2 : w4.cell? ⟨W.heap.size, 2, none⟩ = some (.string ⟨#[]⟩) := bcell hO4 rfl
  have x3 : w4.cell? ⟨W.heap.size, 3, none⟩ = some (.int .i64 0) := bcell hO4 rfl
  clear hb4
  go_wp2
  have hm5 : MP ((((w4.setCell ⟨W.heap.size, 0, none⟩ (.slice aa yy.length ac)).setCell ⟨W.heap.size, 1, none⟩ (.slice none 0 0)).setCell ⟨W.heap.size, 2, none⟩ (.string ll)).setCell ⟨W.heap.size, 3, none⟩ (.int .i64 en)) w.heap.size aa yy := by
    have hbs := hb3.size
    have hb0 := HB0.out.size
    have ht : Tn w4 ((((w4.setCell ⟨W.heap.size, 0, none⟩ (.slice aa yy.length ac)).setCell ⟨W.heap.size, 1, none⟩ (.slice none 0 0)).setCell ⟨W.heap.size, 2, none⟩ (.string ll)).setCell ⟨W.heap.size, 3, none⟩ (.int .i64 en)) (fun k => k = W.heap.size) := ((((Tn.refl w4 (fun k => k = W.heap.size)).set (g := W.heap.size) rfl 0 _).set (g := W.heap.size) rfl 1 _).set (g := W.heap.size) rfl 2 _).set (g := W.heap.size) rfl 3 _
    have h5 := Mine.kept hm4 ht (fun k hk e => by have := (Mine.blk_le hm4 hk).1; omega)
    rcases h5 with e | ⟨g, off, e, hB, hO⟩
    · exact .inl e
    · exact .inr ⟨g, off, e, by omega, hO⟩
  have b5 := bset (bset (bset (bset hO4 0 (.slice aa yy.length ac)) 1 (.slice none 0 0)) 2 (.string ll)) 3 (.int .i64 en)
  have z0 : ((((w4.setCell ⟨W.heap.size, 0, none⟩ (.slice aa yy.length ac)).setCell ⟨W.heap.size, 1, none⟩ (.slice none 0 0)).setCell ⟨W.heap.size, 2, none⟩ (.string ll)).setCell ⟨W.heap.size, 3, none⟩ (.int .i64 en)).cell? ⟨W.heap.size, 0, none⟩ = some (.slice aa yy.length ac) := bcell b5 rfl
  have z1 : ((((w4.setCell ⟨W.heap.size, 0, none⟩ (.slice aa yy.length ac)).setCell ⟨W.heap.size, 1, none⟩ (.slice none 0 0)).setCell ⟨W.heap.size, 2, none⟩ (.string ll)).setCell ⟨W.heap.size, 3, none⟩ (.int .i64 en)).cell? ⟨W.heap.size, 1, none⟩ = some (.slice none 0 0) := bcell b5 rfl
  have z2 : ((((w4.setCell ⟨W.heap.size, 0, none⟩ (.slice aa yy.length ac)).setCell ⟨W.heap.size, 1, none⟩ (.slice none 0 0)).setCell ⟨W.heap.size, 2, none⟩ (.string ll)).setCell ⟨W.heap.size, 3, none⟩ (.int .i64 en)).cell? ⟨W.heap.size, 2, none⟩ = some (.string ll) := bcell b5 rfl
  have z3 : ((((w4.setCell ⟨W.heap.size, 0, none⟩ (.slice aa yy.length ac)).setCell ⟨W.heap.size, 1, none⟩ (.slice none 0 0)).setCell ⟨W.heap.size, 2, none⟩ (.string ll)).setCell ⟨W.heap.size, 3, none⟩ (.int .i64 en)).cell? ⟨W.heap.size, 3, none⟩ = some (.int .i64 en) := bcell b5 rfl
  have hBw4 : Below w.heap.size w w4 := HB0.out.trans ((HB2.out.trans (hB34.mono HB2.out.size)).mono HB0.out.size)
  refine bodyPost_ret (v := .agg #[.slice aa yy.length ac, .slice none 0 0, .string ll, .int .i64 en]) (by simp [results, Tryz.results19, go_sem, z0, z1, z2, z3]) rfl ?_
  refine ⟨aa, ac, by rw [HYY.out, HLL.out, HEN.out], ?_, (((hBw4.setCell HB0.out.size _).setCell HB0.out.size _).setCell HB0.out.size _).setCell HB0.out.size _⟩
  rw [HYY.out]
  exact ta_one hm5

set_option maxRecDepth 100000 in
set_option maxHeartbeats 1000000 in
theorem b9 (ya ra : Option Addr) (yl yc rl rc : Nat) (lg : ByteArray) (sf kp : Int) (w : World) (hlg : lg.size ≤ 1048576) (s0 : ¬ sf < 0) (s1 : ¬ (lg.size : Int) < sf) (k1 : ¬ (lg.size : Int) - sf < kp) (k2 : 0 < kp) (e0 : Hid (lft sf kp lg.size = sf + kp)) :
    Calls Tryz.prog 19 #[.agg #[.slice ya yl yc, .slice ra rl rc, .string lg, .int .i64 sf], .int .i64 kp] w fun e w' => CA w lg sf kp e w' := by
  have hA := bnew w #[.slice ya yl yc, .slice ra rl rc, .string lg, .int .i64 sf] 29
  obtain ⟨W, hW⟩ : ∃ W, w.alloc (.cells #[.slice ya yl yc, .slice ra rl rc, .string lg, .int .i64 sf] 29) = W := ⟨_, rfl⟩
  have HB0 : Hid (Below w.heap.size w W) := by unfold Hid; rw [← hW]; exact (Below.refl _ _).alloc (Nat.le_refl _) _
  rw [hW] at hA
  have hlt := (Array.getElem?_eq_some_iff.1 hA).1
  have hO := bnew W #[.slice none 0 0, .slice none 0 0, .string ⟨#[]⟩, .int .i64 0] 29
  obtain ⟨V, hV⟩ : ∃ V, W.alloc (.cells #[.slice none 0 0, .slice none 0 0, .string ⟨#[]⟩, .int .i64 0] 29) = V := ⟨_, rfl⟩
  have HB2 : Hid (Below W.heap.size W V) := by unfold Hid; rw [← hV]; exact (Below.refl _ _).alloc (Nat.le_refl _) _
  rw [hV] at hO
  have HA : Hid (V.heap[w.heap.size]? = some (.cells #[.slice ya yl yc, .slice ra rl rc, .string lg, .int .i64 sf] 29 (0, 0))) := bstay hA HB2.out hlt
  have HO : Hid (V.heap[W.heap.size]? = some (.cells #[.slice none 0 0, .slice none 0 0, .string ⟨#[]⟩, .int .i64 0] 29 (0, 0))) := hO
  have c2 : V.cell? ⟨w.heap.size, 2, none⟩ = some (.string lg) := bcell HA.out rfl
  have c3 : V.cell? ⟨w.heap.size, 3, none⟩ = some (.int .i64 sf) := bcell HA.out rfl
  clear hA hO hlt
  go_enter Tryz.func19, Tryz.ntmps19
  go_wp2_with (go_at_call 55; fail)
  have hrc := rcS.spec_recs (lg.extract 0 (lft sf kp lg.size).toNat) V (by rw [ByteArray.size_extract]; omega)
  have hcv : ∀ t : ByteArray, t = lg.extract 0 (lft sf kp lg.size).toNat → Calls Tryz.prog 55 #[.string t] V fun e w' => ∃ v, e = .returned (.tuple #[v, .int .i64 (endL lg sf kp)]) ∧ Below V.heap.size V w' := fun t ht => by
    rw [ht]
    exact hrc.mono fun e w' ⟨v, h1, _, _, h2⟩ => ⟨v, h1, h2.bel⟩
  clear hrc hW hV
  refine (hcv _ ?_).mono ?_
  · rw [e0.out]
  rintro e w3 ⟨v3, rfl, hb3⟩
  clear c2 c3 hcv
  have hltA : w.heap.size < V.heap.size := (Array.getElem?_eq_some_iff.1 HA.out).1
  have c2 : w3.cell? ⟨w.heap.size, 2, none⟩ = some (.string lg) := bcell (bstay HA.out hb3 hltA) rfl
  have hrp3 := rps.spec_replay (logL lg sf kp) w3 (by unfold logL; rw [ByteArray.size_extract]; omega)
  obtain ⟨h1, _, h2⟩ := end_in lg sf kp
  have hrl : logL lg sf kp = lg.extract 0 (endL lg sf kp).toNat := rfl
  obtain ⟨en, hen⟩ : ∃ en, endL lg sf kp = en := ⟨_, rfl⟩
  have HEN : Hid (endL lg sf kp = en) := hen
  rw [hrl, hen] at hrp3
  obtain ⟨ll, hll⟩ : ∃ ll, lg.extract 0 en.toNat = ll := ⟨_, rfl⟩
  have HLL : Hid (logL lg sf kp = ll) := by unfold Hid; rw [hrl, hen, hll]
  rw [hll] at hrp3
  obtain ⟨yy, hyy⟩ : ∃ yy, rep ll = yy := ⟨_, rfl⟩
  have HYY : Hid (ansY lg sf kp = yy) := by unfold Hid ansY; rw [HLL.out, hyy]
  rw [hyy] at hrp3
  rw [hen] at h1 h2 ⊢
  clear hen hrl hyy
  go_wp2_with (go_at_call 56; fail)
  refine hrp3.mono ?_
  rintro e w4 ⟨v4, rfl, ho4, hb4⟩
  obtain ⟨aa, ac, rfl, hm4⟩ := pmk.mine_of flP.c_len ho4
  clear hrp3 ho4 c2 h1 h2
  have hB34 : Below V.heap.size V w4 := hb3.trans (hb4.mono hb3.size)
  have hltO : W.heap.size < V.heap.size := (Array.getElem?_eq_some_iff.1 HO.out).1
  have hO4 := bstay HO.out hB34 hltO
  have f0 := bfree hO4 0
  have f1 := bfree hO4 1
  have f2 := bfree hO4 2
  have f3 := bfree hO4 3
  have x0 : w4.cell? ⟨W.heap.size, 0, none⟩ = some (.slice none 0 0) := bcell hO4 rfl
  have x1 : w4.cell? ⟨W.heap.size, 1, none⟩ = some (.slice none 0 0) := bcell hO4 rfl
  have x2 : w4.cell? ⟨W.heap.size, 2, none⟩ = some (.string ⟨#[]⟩) := bcell hO4 rfl
  have x3 : w4.cell? ⟨W.heap.size, 3, none⟩ = some (.int .i64 0) := bcell hO4 rfl
  clear hb4
  go_wp2
  have hm5 : MP ((((w4.setCell ⟨W.heap.size, 0, none⟩ (.slice aa yy.length ac)).setCell ⟨W.heap.size, 1, none⟩ (.slice none 0 0)).setCell ⟨W.heap.size, 2, none⟩ (.string ll)).setCell ⟨W.heap.size, 3, none⟩ (.int .i64 en)) w.heap.size aa yy := by
    have hbs := hb3.size
    have hb0 := HB0.out.size
    have ht : Tn w4 ((((w4.setCell ⟨W.heap.size, 0, none⟩ (.slice aa yy.length ac)).setCell ⟨W.heap.size, 1, none⟩ (.slice none 0 0)).setCell ⟨W.heap.size, 2, none⟩ (.string ll)).setCell ⟨W.heap.size, 3, none⟩ (.int .i64 en)) (fun k => k = W.heap.size) := ((((Tn.refl w4 (fun k => k = W.heap.size)).set (g := W.heap.size) rfl 0 _).set (g := W.heap.size) rfl 1 _).set (g := W.heap.size) rfl 2 _).set (g := W.heap.size) rfl 3 _
    have h5 := Mine.kept hm4 ht (fun k hk e => by have := (Mine.blk_le hm4 hk).1; omega)
    rcases h5 with e | ⟨g, off, e, hB, hO⟩
    · exact .inl e
    · exact .inr ⟨g, off, e, by omega, hO⟩
  have b5 := bset (bset (bset (bset hO4 0 (.slice aa yy.length ac)) 1 (.slice none 0 0)) 2 (.string ll)) 3 (.int .i64 en)
  have z0 : ((((w4.setCell ⟨W.heap.size, 0, none⟩ (.slice aa yy.length ac)).setCell ⟨W.heap.size, 1, none⟩ (.slice none 0 0)).setCell ⟨W.heap.size, 2, none⟩ (.string ll)).setCell ⟨W.heap.size, 3, none⟩ (.int .i64 en)).cell? ⟨W.heap.size, 0, none⟩ = some (.slice aa yy.length ac) := bcell b5 rfl
  have z1 : ((((w4.setCell ⟨W.heap.size, 0, none⟩ (.slice aa yy.length ac)).setCell ⟨W.heap.size, 1, none⟩ (.slice none 0 0)).setCell ⟨W.heap.size, 2, none⟩ (.string ll)).setCell ⟨W.heap.size, 3, none⟩ (.int .i64 en)).cell? ⟨W.heap.size, 1, none⟩ = some (.slice none 0 0) := bcell b5 rfl
  have z2 : ((((w4.setCell ⟨W.heap.size, 0, none⟩ (.slice aa yy.length ac)).setCell ⟨W.heap.size, 1, none⟩ (.slice none 0 0)).setCell ⟨W.heap.size, 2, none⟩ (.string ll)).setCell ⟨W.heap.size, 3, none⟩ (.int .i64 en)).cell? ⟨W.heap.size, 2, none⟩ = some (.string ll) := bcell b5 rfl
  have z3 : ((((w4.setCell ⟨W.heap.size, 0, none⟩ (.slice aa yy.length ac)).setCell ⟨W.heap.size, 1, none⟩ (.slice none 0 0)).setCell ⟨W.heap.size, 2, none⟩ (.string ll)).setCell ⟨W.heap.size, 3, none⟩ (.int .i64 en)).cell? ⟨W.heap.size, 3, none⟩ = some (.int .i64 en) := bcell b5 rfl
  have hBw4 : Below w.heap.size w w4 := HB0.out.trans ((HB2.out.trans (hB34.mono HB2.out.size)).mono HB0.out.size)
  refine bodyPost_ret (v := .agg #[.slice aa yy.length ac, .slice none 0 0, .string ll, .int .i64 en]) (by simp [results, Tryz.results19, go_sem, z0, z1, z2, z3]) rfl ?_
  refine ⟨aa, ac, by rw [HYY.out, HLL.out, HEN.out], ?_, (((hBw4.setCell HB0.out.size _).setCell HB0.out.size _).setCell HB0.out.size _).setCell HB0.out.size _⟩
  rw [HYY.out]
  exact ta_one hm5

set_option maxRecDepth 100000 in
set_option maxHeartbeats 1000000 in
theorem b10 (ya ra : Option Addr) (yl yc rl rc : Nat) (lg : ByteArray) (sf kp : Int) (w : World) (hlg : lg.size ≤ 1048576) (s0 : ¬ sf < 0) (s1 : ¬ (lg.size : Int) < sf) (k1 : ¬ (lg.size : Int) - sf < kp) (k2 : ¬ 0 < kp) (e0 : Hid (lft sf kp lg.size = sf)) :
    Calls Tryz.prog 19 #[.agg #[.slice ya yl yc, .slice ra rl rc, .string lg, .int .i64 sf], .int .i64 kp] w fun e w' => CA w lg sf kp e w' := by
  have hA := bnew w #[.slice ya yl yc, .slice ra rl rc, .string lg, .int .i64 sf] 29
  obtain ⟨W, hW⟩ : ∃ W, w.alloc (.cells #[.slice ya yl yc, .slice ra rl rc, .string lg, .int .i64 sf] 29) = W := ⟨_, rfl⟩
  have HB0 : Hid (Below w.heap.size w W) := by unfold Hid; rw [← hW]; exact (Below.refl _ _).alloc (Nat.le_refl _) _
  rw [hW] at hA
  have hlt := (Array.getElem?_eq_some_iff.1 hA).1
  have hO := bnew W #[.slice none 0 0, .slice none 0 0, .string ⟨#[]⟩, .int .i64 0] 29
  obtain ⟨V, hV⟩ : ∃ V, W.alloc (.cells #[.slice none 0 0, .slice none 0 0, .string ⟨#[]⟩, .int .i64 0] 29) = V := ⟨_, rfl⟩
  have HB2 : Hid (Below W.heap.size W V) := by unfold Hid; rw [← hV]; exact (Below.refl _ _).alloc (Nat.le_refl _) _
  rw [hV] at hO
  have HA : Hid (V.heap[w.heap.size]? = some (.cells #[.slice ya yl yc, .slice ra rl rc, .string lg, .int .i64 sf] 29 (0, 0))) := bstay hA HB2.out hlt
  have HO : Hid (V.heap[W.heap.size]? = some (.cells #[.slice none 0 0, .slice none 0 0, .string ⟨#[]⟩, .int .i64 0] 29 (0, 0))) := hO
  have c2 : V.cell? ⟨w.heap.size, 2, none⟩ = some (.string lg) := bcell HA.out rfl
  have c3 : V.cell? ⟨w.heap.size, 3, none⟩ = some (.int .i64 sf) := bcell HA.out rfl
  clear hA hO hlt
  go_enter Tryz.func19, Tryz.ntmps19
  go_wp2_with (go_at_call 55; fail)
  have hrc := rcS.spec_recs (lg.extract 0 (lft sf kp lg.size).toNat) V (by rw [ByteArray.size_extract]; omega)
  have hcv : ∀ t : ByteArray, t = lg.extract 0 (lft sf kp lg.size).toNat → Calls Tryz.prog 55 #[.string t] V fun e w' => ∃ v, e = .returned (.tuple #[v, .int .i64 (endL lg sf kp)]) ∧ Below V.heap.size V w' := fun t ht => by
    rw [ht]
    exact hrc.mono fun e w' ⟨v, h1, _, _, h2⟩ => ⟨v, h1, h2.bel⟩
  clear hrc hW hV
  refine (hcv _ ?_).mono ?_
  · rw [e0.out]
  rintro e w3 ⟨v3, rfl, hb3⟩
  clear c2 c3 hcv
  have hltA : w.heap.size < V.heap.size := (Array.getElem?_eq_some_iff.1 HA.out).1
  have c2 : w3.cell? ⟨w.heap.size, 2, none⟩ = some (.string lg) := bcell (bstay HA.out hb3 hltA) rfl
  have hrp3 := rps.spec_replay (logL lg sf kp) w3 (by unfold logL; rw [ByteArray.size_extract]; omega)
  obtain ⟨h1, _, h2⟩ := end_in lg sf kp
  have hrl : logL lg sf kp = lg.extract 0 (endL lg sf kp).toNat := rfl
  obtain ⟨en, hen⟩ : ∃ en, endL lg sf kp = en := ⟨_, rfl⟩
  have HEN : Hid (endL lg sf kp = en) := hen
  rw [hrl, hen] at hrp3
  obtain ⟨ll, hll⟩ : ∃ ll, lg.extract 0 en.toNat = ll := ⟨_, rfl⟩
  have HLL : Hid (logL lg sf kp = ll) := by unfold Hid; rw [hrl, hen, hll]
  rw [hll] at hrp3
  obtain ⟨yy, hyy⟩ : ∃ yy, rep ll = yy := ⟨_, rfl⟩
  have HYY : Hid (ansY lg sf kp = yy) := by unfold Hid ansY; rw [HLL.out, hyy]
  rw [hyy] at hrp3
  rw [hen] at h1 h2 ⊢
  clear hen hrl hyy
  go_wp2_with (go_at_call 56; fail)
  refine hrp3.mono ?_
  rintro e w4 ⟨v4, rfl, ho4, hb4⟩
  obtain ⟨aa, ac, rfl, hm4⟩ := pmk.mine_of flP.c_len ho4
  clear hrp3 ho4 c2 h1 h2
  have hB34 : Below V.heap.size V w4 := hb3.trans (hb4.mono hb3.size)
  have hltO : W.heap.size < V.heap.size := (Array.getElem?_eq_some_iff.1 HO.out).1
  have hO4 := bstay HO.out hB34 hltO
  have f0 := bfree hO4 0
  have f1 := bfree hO4 1
  have f2 := bfree hO4 2
  have f3 := bfree hO4 3
  have x0 : w4.cell? ⟨W.heap.size, 0, none⟩ = some (.slice none 0 0) := bcell hO4 rfl
  have x1 : w4.cell? ⟨W.heap.size, 1, none⟩ = some (.slice none 0 0) := bcell hO4 rfl
  have x2 : w4.cell? ⟨W.heap.size, 2, none⟩ = some (.string ⟨#[]⟩) := bcell hO4 rfl
  have x3 : w4.cell? ⟨W.heap.size, 3, none⟩ = some (.int .i64 0) := bcell hO4 rfl
  clear hb4
  go_wp2
  have hm5 : MP ((((w4.setCell ⟨W.heap.size, 0, none⟩ (.slice aa yy.length ac)).setCell ⟨W.heap.size, 1, none⟩ (.slice none 0 0)).setCell ⟨W.heap.size, 2, none⟩ (.string ll)).setCell ⟨W.heap.size, 3, none⟩ (.int .i64 en)) w.heap.size aa yy := by
    have hbs := hb3.size
    have hb0 := HB0.out.size
    have ht : Tn w4 ((((w4.setCell ⟨W.heap.size, 0, none⟩ (.slice aa yy.length ac)).setCell ⟨W.heap.size, 1, none⟩ (.slice none 0 0)).setCell ⟨W.heap.size, 2, none⟩ (.string ll)).setCell ⟨W.heap.size, 3, none⟩ (.int .i64 en)) (fun k => k = W.heap.size) := ((((Tn.refl w4 (fun k => k = W.heap.size)).set (g := W.heap.size) rfl 0 _).set (g := W.heap.size) rfl 1 _).set (g := W.heap.size) rfl 2 _).set (g := W.heap.size) rfl 3 _
    have h5 := Mine.kept hm4 ht (fun k hk e => by have := (Mine.blk_le hm4 hk).1; omega)
    rcases h5 with e | ⟨g, off, e, hB, hO⟩
    · exact .inl e
    · exact .inr ⟨g, off, e, by omega, hO⟩
  have b5 := bset (bset (bset (bset hO4 0 (.slice aa yy.length ac)) 1 (.slice none 0 0)) 2 (.string ll)) 3 (.int .i64 en)
  have z0 : ((((w4.setCell ⟨W.heap.size, 0, none⟩ (.slice aa yy.length ac)).setCell ⟨W.heap.size, 1, none⟩ (.slice none 0 0)).setCell ⟨W.heap.size, 2, none⟩ (.string ll)).setCell ⟨W.heap.size, 3, none⟩ (.int .i64 en)).cell? ⟨W.heap.size, 0, none⟩ = some (.slice aa yy.length ac) := bcell b5 rfl
  have z1 : ((((w4.setCell ⟨W.heap.size, 0, none⟩ (.slice aa yy.length ac)).setCell ⟨W.heap.size, 1, none⟩ (.slice none 0 0)).setCell ⟨W.heap.size, 2, none⟩ (.string ll)).setCell ⟨W.heap.size, 3, none⟩ (.int .i64 en)).cell? ⟨W.heap.size, 1, none⟩ = some (.slice none 0 0) := bcell b5 rfl
  have z2 : ((((w4.setCell ⟨W.heap.size, 0, none⟩ (.slice aa yy.length ac)).setCell ⟨W.heap.size, 1, none⟩ (.slice none 0 0)).setCell ⟨W.heap.size, 2, none⟩ (.string ll)).setCell ⟨W.heap.size, 3, none⟩ (.int .i64 en)).cell? ⟨W.heap.size, 2, none⟩ = some (.string ll) := bcell b5 rfl
  have z3 : ((((w4.setCell ⟨W.heap.size, 0, none⟩ (.slice aa yy.length ac)).setCell ⟨W.heap.size, 1, none⟩ (.slice none 0 0)).setCell ⟨W.heap.size, 2, none⟩ (.string ll)).setCell ⟨W.heap.size, 3, none⟩ (.int .i64 en)).cell? ⟨W.heap.size, 3, none⟩ = some (.int .i64 en) := bcell b5 rfl
  have hBw4 : Below w.heap.size w w4 := HB0.out.trans ((HB2.out.trans (hB34.mono HB2.out.size)).mono HB0.out.size)
  refine bodyPost_ret (v := .agg #[.slice aa yy.length ac, .slice none 0 0, .string ll, .int .i64 en]) (by simp [results, Tryz.results19, go_sem, z0, z1, z2, z3]) rfl ?_
  refine ⟨aa, ac, by rw [HYY.out, HLL.out, HEN.out], ?_, (((hBw4.setCell HB0.out.size _).setCell HB0.out.size _).setCell HB0.out.size _).setCell HB0.out.size _⟩
  rw [HYY.out]
  exact ta_one hm5

theorem spec_crash (ya ra : Option Addr) (yl yc rl rc : Nat) (lg : ByteArray) (sf kp : Int) (w : World) (hlg : lg.size ≤ 1048576) :
    Calls Tryz.prog 19 #[.agg #[.slice ya yl yc, .slice ra rl rc, .string lg, .int .i64 sf], .int .i64 kp] w fun e w' => CA w lg sf kp e w' := by
  by_cases s0 : sf < 0
  · by_cases k1 : (lg.size : Int) < kp
    · by_cases k2 : 0 < (lg.size : Int)
      · exact b1 ya ra yl yc rl rc lg sf kp w hlg s0 k1 k2 (by unfold Hid lft; omega)
      · exact b2 ya ra yl yc rl rc lg sf kp w hlg s0 k1 k2 (by unfold Hid lft; omega)
    · by_cases k2 : 0 < kp
      · exact b3 ya ra yl yc rl rc lg sf kp w hlg s0 k1 k2 (by unfold Hid lft; omega)
      · exact b4 ya ra yl yc rl rc lg sf kp w hlg s0 k1 k2 (by unfold Hid lft; omega)
  · by_cases s1 : (lg.size : Int) < sf
    · by_cases k1 : 0 < kp
      · exact b5 ya ra yl yc rl rc lg sf kp w hlg s0 s1 k1 (by unfold Hid lft; omega)
      · exact b6 ya ra yl yc rl rc lg sf kp w hlg s0 s1 k1 (by unfold Hid lft; omega)
    · by_cases k1 : (lg.size : Int) - sf < kp
      · by_cases k2 : 0 < (lg.size : Int) - sf
        · exact b7 ya ra yl yc rl rc lg sf kp w hlg s0 s1 k1 k2 (by unfold Hid lft; omega)
        · exact b8 ya ra yl yc rl rc lg sf kp w hlg s0 s1 k1 k2 (by unfold Hid lft; omega)
      · by_cases k2 : 0 < kp
        · exact b9 ya ra yl yc rl rc lg sf kp w hlg s0 s1 k1 k2 (by unfold Hid lft; omega)
        · exact b10 ya ra yl yc rl rc lg sf kp w hlg s0 s1 k1 k2 (by unfold Hid lft; omega)
end Go.Proofs.YtlgcciaebkfnjaaGreatDoor.sco

/- StoreCrash: the program. -/
namespace Go.Proofs.YtlgcciaebkfnjaaGreatDoor.sco
open Go.ChangeShapes Go.WideShapes Go.ChangeAt Go.RowKit Go.Proofs.YtlgcciaebkfnjaaGreatDoor.fl Go.Proofs.YtlgcciaebkfnjaaGreatDoor.fo Go.Proofs.YtlgcciaebkfnjaaGreatDoor.rn Go.Proofs.YtlgcciaebkfnjaaGreatDoor.mrR Go.Proofs.YtlgcciaebkfnjaaGreatDoor.mrT Go.Proofs.YtlgcciaebkfnjaaGreatDoor.tan Go.Proofs.YtlgcciaebkfnjaaGreatDoor.rcp Go.Proofs.YtlgcciaebkfnjaaGreatDoor.rcm Go.Proofs.YtlgcciaebkfnjaaGreatDoor.rpp Go.Proofs.YtlgcciaebkfnjaaGreatDoor.rcI
set_option linter.unusedVariables false

theorem impl_within (n m : Int) (w : World) : Calls Tryz.prog 53 #[.int .i64 n, .int .i64 m] w fun e w' => e = .returned (.int .i64 (max 0 (min n m))) ∧ w' = w := by
  go_enter Tryz.func53, Tryz.ntmps53
  go_wp2
  go_ret
  exact ⟨rfl, rfl⟩

set_option maxRecDepth 100000 in
set_option maxHeartbeats 2000000 in
theorem impl_crash (ya ra : Option Addr) (yl yc rl rc : Nat) (lg : ByteArray) (sf kp : Int) (w : World) (hlg : lg.size ≤ 1048576) (hT : TB w) :
    Calls Tryz.prog 18 #[.agg #[.slice ya yl yc, .slice ra rl rc, .string lg, .int .i64 sf], .int .i64 kp] w fun e w' => CA w lg sf kp e w' := by
  have hA := bnew w #[.slice ya yl yc, .slice ra rl rc, .string lg, .int .i64 sf] 29
  obtain ⟨W, hW⟩ : ∃ W, w.alloc (.cells #[.slice ya yl yc, .slice ra rl rc, .string lg, .int .i64 sf] 29) = W := ⟨_, rfl⟩
  have HB0 : Hid (Below w.heap.size w W) := by unfold Hid; rw [← hW]; exact (Below.refl _ _).alloc (Nat.le_refl _) _
  rw [hW] at hA
  have hlt := (Array.getElem?_eq_some_iff.1 hA).1
  have hO := bnew W #[.slice none 0 0, .slice none 0 0, .string ⟨#[]⟩, .int .i64 0] 29
  obtain ⟨V, hV⟩ : ∃ V, W.alloc (.cells #[.slice none 0 0, .slice none 0 0, .string ⟨#[]⟩, .int .i64 0] 29) = V := ⟨_, rfl⟩
  have HB2 : Hid (Below W.heap.size W V) := by unfold Hid; rw [← hV]; exact (Below.refl _ _).alloc (Nat.le_refl _) _
  rw [hV] at hO
  have HT : Hid (TB V) := (hT.on HB0.out).on HB2.out
  have HA : Hid (V.heap[w.heap.size]? = some (.cells #[.slice ya yl yc, .slice ra rl rc, .string lg, .int .i64 sf] 29 (0, 0))) := bstay hA HB2.out hlt
  have HO : Hid (V.heap[W.heap.size]? = some (.cells #[.slice none 0 0, .slice none 0 0, .string ⟨#[]⟩, .int .i64 0] 29 (0, 0))) := hO
  have c2 : V.cell? ⟨w.heap.size, 2, none⟩ = some (.string lg) := bcell HA.out rfl
  have c3 : V.cell? ⟨w.heap.size, 3, none⟩ = some (.int .i64 sf) := bcell HA.out rfl
  have hw1 := impl_within sf (lg.size : Int) V
  obtain ⟨sv, hsv⟩ : ∃ sv, max 0 (min sf (lg.size : Int)) = sv := ⟨_, rfl⟩
  have HSV : Hid (max 0 (min sf (lg.size : Int)) = sv) := hsv
  have v1 : 0 ≤ sv := by omega
  have v2 : sv ≤ (lg.size : Int) := by omega
  rw [hsv] at hw1
  clear hA hO hlt hT hsv
  go_enter Tryz.func18, Tryz.ntmps18
  go_wp2_with (go_at_call 53; fail)
  refine hw1.mono ?_
  rintro e w1 ⟨rfl, hw1'⟩
  obtain rfl := hw1'.symm
  clear hw1 c3
  have hw2 := impl_within kp ((lg.size : Int) - sv) V.drew
  obtain ⟨kv, hkv⟩ : ∃ kv, max 0 (min kp ((lg.size : Int) - sv)) = kv := ⟨_, rfl⟩
  have HLF : Hid (lft sf kp lg.size = sv + kv) := by unfold Hid lft; rw [HSV.out, hkv]
  have v3 : 0 ≤ kv := by omega
  have v4 : sv + kv ≤ (lg.size : Int) := by omega
  have v5 : 0 ≤ sv + kv := by omega
  rw [hkv] at hw2
  clear hkv
  have hwr1 : IntKind.i64.wrap ((lg.size : Int) - sv) = (lg.size : Int) - sv := by rw [IntKind.wrap_i64]; omega
  have hwr2 : IntKind.i64.wrap (sv + kv) = sv + kv := by rw [IntKind.wrap_i64]; omega
  have hbD : Below V.heap.size V V.drew := (Below.refl _ V).drew
  have HT' : Hid (TB V.drew) := HT.out.on hbD
  have HB2' : Hid (Below W.heap.size W V.drew) := HB2.out.drew
  have HO' : Hid (V.drew.heap[W.heap.size]? = some (.cells #[.slice none 0 0, .slice none 0 0, .string ⟨#[]⟩, .int .i64 0] 29 (0, 0))) := HO.out
  go_wp2
  go_region_with (go_at_call 53; refine hw2.mono ?_; rintro e w1 ⟨rfl, hw2'⟩; obtain rfl := hw2'.symm)
  all_goals
    clear hw2
    obtain ⟨U, hU⟩ : ∃ U, V.drew = U := ⟨_, rfl⟩
    rw [hU] at HT' HB2' HO' ⊢
    have hrc := impl_recs (lg.extract 0 (lft sf kp lg.size).toNat) U (by rw [ByteArray.size_extract]; omega) HT'.out
    have hcv : ∀ t : ByteArray, t = lg.extract 0 (lft sf kp lg.size).toNat → Calls Tryz.prog 54 #[.string t] U fun e w' => ∃ v, e = .returned (.tuple #[v, .int .i64 (endL lg sf kp)]) ∧ Below U.heap.size U w' := fun t ht => by
      rw [ht]
      exact hrc.mono fun e w' ⟨v, h1, _, _, h2⟩ => ⟨v, h1, h2.bel⟩
    clear hrc hW hV hU
    go_wp2_with (go_at_call 54; fail)
    refine (hcv _ (by rw [HLF.out])).mono ?_
    rintro e w3 ⟨v3', rfl, hb3⟩
    clear c2 hcv
    obtain ⟨h1, h1', h2⟩ := end_in lg sf kp
    rw [HLF.out] at h1'
    have hrl : logL lg sf kp = lg.extract 0 (endL lg sf kp).toNat := rfl
    obtain ⟨en, hen⟩ : ∃ en, endL lg sf kp = en := ⟨_, rfl⟩
    have HEN : Hid (endL lg sf kp = en) := hen
    rw [hen] at h1 h1' h2 hrl ⊢
    have hcc : (lg.extract 0 (sv + kv).toNat).extract 0 en.toNat = logL lg sf kp := by rw [hrl, cut_cut _ _ _ (by omega)]
    have hsz : en ≤ ((lg.extract 0 (sv + kv).toNat).size : Int) := by rw [ByteArray.size_extract]; omega
    obtain ⟨ll, hll⟩ : ∃ ll, logL lg sf kp = ll := ⟨_, rfl⟩
    have HLL : Hid (logL lg sf kp = ll) := hll
    have hls : ll.size ≤ 1048576 := by rw [← hll, hrl, ByteArray.size_extract]; omega
    rw [hll] at hcc
    obtain ⟨cut, hcut⟩ : ∃ cut, lg.extract 0 (sv + kv).toNat = cut := ⟨_, rfl⟩
    rw [hcut] at hcc hsz ⊢
    have hcl := cl.clone ll w3 (by omega)
    clear hcut hrl hll hen
    go_wp2_with (go_at_call 50; fail)
    refine hcl.mono ?_
    rintro e w5 ⟨rfl, hb5⟩
    have hB5 : Below U.heap.size U w5 := hb3.trans (hb5.mono hb3.size)
    have hrp3 := rpi.impl_replay ll w5 hls (HT'.out.on hB5)
    obtain ⟨yy, hyy⟩ : ∃ yy, rep ll = yy := ⟨_, rfl⟩
    have HYY : Hid (ansY lg sf kp = yy) := by unfold Hid ansY; rw [HLL.out, hyy]
    rw [hyy] at hrp3
    clear hyy hcl hcc hsz
    go_wp2_with (go_at_call 26; fail)
    refine hrp3.mono ?_
    rintro e w4 ⟨v4', rfl, ho4, hb4⟩
    obtain ⟨aa, ac, rfl, hm4'⟩ := pmk.mine_of flP.c_len ho4
    have hm4 : Mine flP.c 3 49 w4 w3.heap.size aa yy := by
      rcases hm4' with e | ⟨g, off, e, hB, hO⟩
      · exact .inl e
      · exact .inr ⟨g, off, e, Nat.le_trans hb5.size hB, hO⟩
    have hB34 : Below U.heap.size U w4 := hB5.trans (hb4.mono hB5.size)
    have hltO : W.heap.size < U.heap.size := (Array.getElem?_eq_some_iff.1 HO'.out).1
    have hO4 := bstay HO'.out hB34 hltO
    have f0 := bfree hO4 0
    have f1 := bfree hO4 1
    have f2 := bfree hO4 2
    have f3 := bfree hO4 3
    have x0 : w4.cell? ⟨W.heap.size, 0, none⟩ = some (.slice none 0 0) := bcell hO4 rfl
    have x1 : w4.cell? ⟨W.heap.size, 1, none⟩ = some (.slice none 0 0) := bcell hO4 rfl
    have x2 : w4.cell? ⟨W.heap.size, 2, none⟩ = some (.string ⟨#[]⟩) := bcell hO4 rfl
    have x3 : w4.cell? ⟨W.heap.size, 3, none⟩ = some (.int .i64 0) := bcell hO4 rfl
    clear hb4 hrp3 ho4 hm4' hb5 hB5
    go_wp2
    have hm5 : MP ((((w4.setCell ⟨W.heap.size, 0, none⟩ (.slice aa yy.length ac)).setCell ⟨W.heap.size, 1, none⟩ (.slice none 0 0)).setCell ⟨W.heap.size, 2, none⟩ (.string ll)).setCell ⟨W.heap.size, 3, none⟩ (.int .i64 en)) w.heap.size aa yy := by
      have hbs := hb3.size
      have hb0 := HB0.out.size
      have ht : Tn w4 ((((w4.setCell ⟨W.heap.size, 0, none⟩ (.slice aa yy.length ac)).setCell ⟨W.heap.size, 1, none⟩ (.slice none 0 0)).setCell ⟨W.heap.size, 2, none⟩ (.string ll)).setCell ⟨W.heap.size, 3, none⟩ (.int .i64 en)) (fun k => k = W.heap.size) := ((((Tn.refl w4 (fun k => k = W.heap.size)).set (g := W.heap.size) rfl 0 _).set (g := W.heap.size) rfl 1 _).set (g := W.heap.size) rfl 2 _).set (g := W.heap.size) rfl 3 _
      have h5 := Mine.kept hm4 ht (fun k hk e => by have := (Mine.blk_le hm4 hk).1; omega)
      rcases h5 with e | ⟨g, off, e, hB, hO⟩
      · exact .inl e
      · exact .inr ⟨g, off, e, by omega, hO⟩
    have b5 := bset (bset (bset (bset hO4 0 (.slice aa yy.length ac)) 1 (.slice none 0 0)) 2 (.string ll)) 3 (.int .i64 en)
    have z0 : ((((w4.setCell ⟨W.heap.size, 0, none⟩ (.slice aa yy.length ac)).setCell ⟨W.heap.size, 1, none⟩ (.slice none 0 0)).setCell ⟨W.heap.size, 2, none⟩ (.string ll)).setCell ⟨W.heap.size, 3, none⟩ (.int .i64 en)).cell? ⟨W.heap.size, 0, none⟩ = some (.slice aa yy.length ac) := bcell b5 rfl
    have z1 : ((((w4.setCell ⟨W.heap.size, 0, none⟩ (.slice aa yy.length ac)).setCell ⟨W.heap.size, 1, none⟩ (.slice none 0 0)).setCell ⟨W.heap.size, 2, none⟩ (.string ll)).setCell ⟨W.heap.size, 3, none⟩ (.int .i64 en)).cell? ⟨W.heap.size, 1, none⟩ = some (.slice none 0 0) := bcell b5 rfl
    have z2 : ((((w4.setCell ⟨W.heap.size, 0, none⟩ (.slice aa yy.length ac)).setCell ⟨W.heap.size, 1, none⟩ (.slice none 0 0)).setCell ⟨W.heap.size, 2, none⟩ (.string ll)).setCell ⟨W.heap.size, 3, none⟩ (.int .i64 en)).cell? ⟨W.heap.size, 2, none⟩ = some (.string ll) := bcell b5 rfl
    have z3 : ((((w4.setCell ⟨W.heap.size, 0, none⟩ (.slice aa yy.length ac)).setCell ⟨W.heap.size, 1, none⟩ (.slice none 0 0)).setCell ⟨W.heap.size, 2, none⟩ (.string ll)).setCell ⟨W.heap.size, 3, none⟩ (.int .i64 en)).cell? ⟨W.heap.size, 3, none⟩ = some (.int .i64 en) := bcell b5 rfl
    have hBw4 : Below w.heap.size w w4 := HB0.out.trans ((HB2'.out.trans (hB34.mono HB2'.out.size)).mono HB0.out.size)
    refine bodyPost_ret (v := .agg #[.slice aa yy.length ac, .slice none 0 0, .string ll, .int .i64 en]) (by simp [results, Tryz.results18, go_sem, z0, z1, z2, z3]) rfl ?_
    refine ⟨aa, ac, by rw [HYY.out, HLL.out, HEN.out], ?_, (((hBw4.setCell HB0.out.size _).setCell HB0.out.size _).setCell HB0.out.size _).setCell HB0.out.size _⟩
    rw [HYY.out]
    exact ta_one hm5
end Go.Proofs.YtlgcciaebkfnjaaGreatDoor.sco
