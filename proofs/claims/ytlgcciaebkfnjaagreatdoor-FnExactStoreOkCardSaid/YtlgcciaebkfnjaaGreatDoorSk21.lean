/- The law of StoreOk, walked: at every store the program answers as the specification. -/
import Derived.Test.YtlgcciaebkfnjaaGreatDoorSk16
import Derived.Test.YtlgcciaebkfnjaaGreatDoorSk20
import Derived.StringKeys
import Derived.Test.YtlgcciaebkfnjaaGreatDoorSk11
import Derived.Test.YtlgcciaebkfnjaaGreatDoorStoLib

/- The program's Replay. -/
namespace Go.Proofs.YtlgcciaebkfnjaaGreatDoor.rpi
open Go.ChangeShapes Go.WideShapes Go.ChangeAt Go.RowKit Go.Proofs.YtlgcciaebkfnjaaGreatDoor.fl Go.Proofs.YtlgcciaebkfnjaaGreatDoor.fo Go.Proofs.YtlgcciaebkfnjaaGreatDoor.rn Go.Proofs.YtlgcciaebkfnjaaGreatDoor.mrR Go.Proofs.YtlgcciaebkfnjaaGreatDoor.rcp Go.Proofs.YtlgcciaebkfnjaaGreatDoor.rcm Go.Proofs.YtlgcciaebkfnjaaGreatDoor.rpp Go.Proofs.YtlgcciaebkfnjaaGreatDoor.rps Go.Proofs.YtlgcciaebkfnjaaGreatDoor.rcI
set_option linter.unusedVariables false

/-- what stands when some pairs are set in the map -/
structure Sm (W : World) (b : Nat) (R : List (List flP.Pr)) (i k : Nat) (wr : World) : Prop where
  bel : Below W.heap.size W wr
  mp : ∃ n, n ≤ (upto R i k).length ∧ wr.ownsMap Tryz.prog 9 rd b n (dm (ev (upto R i k)))

def cT (p : flP.Pr) : List Value := [.string p.k]
theorem cT_len (p : flP.Pr) : (cT p).length = 1 := rfl
theorem keys_cells : ∀ (L : List flP.Pr), (bts L).map encStr = L.flatMap cT
  | [] => rfl
  | p :: L => by
    have ih := keys_cells L
    unfold bts at ih ⊢
    rw [List.map_cons, List.map_cons, List.flatMap_cons, ih]
    rfl
/-- a look-up of a key that is there -/
theorem look {w : World} {b n : Nat} {L : List flP.Pr} {p : flP.Pr} (h : w.ownsMap Tryz.prog 9 rd b n (dm L)) (hA : mgp.Asc L) (hp : p ∈ L) (hk : p.k.size ≤ 100) :
    (Instr.lookup 89 (.map (some b)) (.string p.k) false).run Tryz.prog w = .ok (.agg #[.string p.k, .string p.v, .bool p.g]) w := by
  obtain ⟨v, ps, hrun, hv⟩ := h.lookup (Maps.string_keyed Tryz.underlying9) Tryz.underlying89 (Tryz.zeroValue49 w) (rd_mk _ _ _) (WideMaps.keyOf_string_mk (s := p.k) Tryz.underlying9 (by unfold maxLen; omega))
  obtain ⟨k, v', g, rfl, hz⟩ := rd_inv hv
  have h2 := (Prod.mk.inj hz).1
  have h3 : pd p = pd ⟨k, v', g⟩ := (dm_at hA hp _).symm.trans h2
  obtain rfl := pd_inj h3
  exact hrun
theorem own_map {w w' : World} {P : Program} {k : TypeId} {R : Value → Option (DataW Unit × List MemPlace)} {b n : Nat} {D : DataW Unit} (h : w.ownsMap P k R b n D) (hb : Below w.heap.size w w') : w'.ownsMap P k R b n D :=
  h.kept (row := none) ⟨hb.os, hb.tape, hb.output, hb.size, fun i hi _ => hb.block i hi⟩ (by simp)
theorem ev_ok {A : List flP.Pr} (h : ∀ e ∈ A, bo.okP e) : ∀ e ∈ ev A, bo.okP e := by
  have gen : ∀ (A L : List flP.Pr), (∀ e ∈ A, bo.okP e) → (∀ e ∈ L, bo.okP e) → ∀ e ∈ A.foldl ptp.setP L, bo.okP e := by
    intro A
    induction A with
    | nil => intro L _ hL; exact hL
    | cons a A ih =>
      intro L hA hL
      refine ih _ (fun e he => hA e (List.mem_cons_of_mem _ he)) (fun e he => ?_)
      rcases ptp.setP_mem he with h | h
      · exact hL e h
      · rw [h]; exact hA a (List.mem_cons_self ..)
  exact gen A [] h (fun e he => by cases he)
/-- what stands while what stays is laid -/
def S5 (W5 : World) (L : List flP.Pr) (k : Nat) (v : Value) (wx : World) : Prop := Below W5.heap.size W5 wx ∧ wx.ownsRow W5.heap.size 49 3 v ((L.take k).filter kp).length (((L.take k).filter kp).flatMap flP.c)
set_option maxRecDepth 100000 in
set_option maxHeartbeats 4000000 in
theorem impl_replay (s : ByteArray) (w : World) (hs : s.size ≤ 1048576) (hT : TB w) :
    Calls Tryz.prog 26 #[.string s] w fun e w' => ∃ v, e = .returned v ∧ w'.ownsRow w.heap.size 49 3 v (rep s).length ((rep s).flatMap flP.c) ∧ Below w.heap.size w w' := by
  have hrc := impl_recs s w hs hT
  obtain ⟨R, hR⟩ : ∃ R, (recs s).1 = R := ⟨_, rfl⟩
  obtain ⟨z, hz⟩ : ∃ z, (recs s).2 = z := ⟨_, rfl⟩
  have HRep : Hid (rep s = (ev R.flatten).filter kp) := by unfold Hid rep; rw [hR]; rfl
  have hfl : R.flatten.length ≤ 200000 ∧ R.length ≤ 25000 ∧ ∀ l ∈ R, ∀ e ∈ l, bo.okP e := by
    by_cases h : s.size ≤ 200000
    · obtain ⟨i, hi, _⟩ := left_ex s h
      rw [hR] at hi
      exact ⟨by have := hi.tot; have := hi.hi; omega, left_len h hi, hi.oks⟩
    · rw [recs_big (by omega)] at hR
      subst hR
      simp
  obtain ⟨hf1, hf2, hf3⟩ := hfl
  have HOK : Hid (∀ l ∈ R, ∀ e ∈ l, bo.okP e) := hf3
  rw [hR, hz] at hrc
  clear hR hz hf3
  go_enter Tryz.func26, Tryz.ntmps26
  go_wp2_with (go_at_call 54; fail)
  refine hrc.mono ?_
  rintro e W ⟨v1, rfl, rs, hm, hro⟩
  obtain ⟨la, lc, rfl, hvr, _⟩ := hro.vr
  have hBW := hro.bel
  have hrl : rs.length = R.length := by rw [← hm, List.length_map]
  have HVR : Hid (VR W W.heap.size la rs) := hvr
  have HM : Hid (rs.map (·.l) = R) := hm
  have hmm := @run_makeMap Tryz.prog
  have hkd : Maps.Keyed Tryz.prog 9 := Maps.string_keyed Tryz.underlying9
  have hal : Below W.heap.size W (W.alloc (.map #[] 0)) := (Below.refl _ _).alloc (Nat.le_refl _) _
  have HS0 : Hid (Sm W W.heap.size R 0 0 (W.alloc (.map #[] 0))) := ⟨hal, 0, Nat.zero_le _, by rw [upto_0]; exact World.ownsMap_made W Tryz.prog 9 rd⟩
  clear hrc hro hvr hm hT
  rw [hrl]
  go_wp2
  obtain ⟨W2, hW2⟩ : ∃ W2, W.alloc (.map #[] 0) = W2 := ⟨_, rfl⟩
  rw [hW2] at HS0 hal ⊢
  clear hW2 hmm
  go_loopw [22] (fun x wr => ∃ i : Nat, i ≤ R.length ∧ x = .int .i64 i ∧ Hid (Sm W W.heap.size R i 0 wr)) (fun x _ => R.length - (intOf x).toNat)
  case atStart => exact ⟨0, Nat.zero_le _, rfl, HS0⟩
  case round =>
    obtain ⟨i, hi, rfl, hst⟩ := hrel
    by_cases hil : i < R.length
    · have hir : i < rs.length := by omega
      have i2 : (i : Int) < (R.length : Int) := by omega
      have HG : Hid (rs[i]? = some rs[i]) := List.getElem?_eq_getElem hir
      have HRR : Hid (Row flP.c 3 W W.heap.size rs[i].a rs[i].l) := HVR.out.2 rs[i] (List.getElem_mem hir)
      have HRI : Hid (R[i]? = some rs[i].l) := by unfold Hid; rw [← HM.out, List.getElem?_map, List.getElem?_eq_getElem hir]; rfl
      obtain ⟨⟨ra, rc, rl⟩, he⟩ : ∃ e, rs[i] = e := ⟨_, rfl⟩
      rw [he] at HG HRR HRI
      obtain ⟨b, off, rfl, hlt, hc⟩ := HVR.out.1.resolve_left (by rintro rfl; simp at hir)
      have HOL : Hid (∀ e ∈ rl, bo.okP e) := HOK.out rl (List.mem_of_getElem? HRI.out)
      have c0 : wr.cell? ⟨b, off + i, none⟩ = some (.slice ra rl.length rc) := (hst.out.bel.cell (p := ⟨b, off + i, none⟩) hlt).trans (by have := hc i _ HG.out 0 _ rfl; simpa using this)
      have hrl60 : rl.length ≤ R.flatten.length := by
        have h2 := upto_le (R := R) i rl.length
        unfold upto at h2
        rw [List.getD_eq_getElem?_getD, HRI.out, Option.getD_some, List.take_length, List.length_append] at h2
        omega
      clear he hc HS0 hir
      go_wp2
      go_loopw [28] (fun x wr => ∃ k : Nat, k ≤ rl.length ∧ x = .int .i64 k ∧ Hid (Sm W W.heap.size R i k wr)) (fun x _ => rl.length - (intOf x).toNat)
      case atStart => exact ⟨0, Nat.zero_le _, rfl, hst⟩
      case round =>
        obtain ⟨k, hk, rfl, hs2⟩ := hrel
        clear hst c0
        by_cases hkl : k < rl.length
        · have i3 : (k : Int) < (rl.length : Int) := by omega
          have HE : Hid (rl[k]? = some rl[k]) := List.getElem?_eq_getElem hkl
          have hok := HOL.out rl[k] (List.getElem_mem hkl)
          obtain ⟨⟨pk, pv, pg⟩, hpe⟩ : ∃ e, rl[k] = e := ⟨_, rfl⟩
          rw [hpe] at HE hok
          have hpk : pk.size ≤ 100 := hok.2.1
          obtain ⟨qb, qo, rfl, hqlt, hqc⟩ := HRR.out.resolve_left (by rintro h0; rw [h0] at hkl; simp at hkl)
          have go : ∀ (o : Nat) (v : Value), W.cell? ⟨qb, o, none⟩ = some v → wr.cell? ⟨qb, o, none⟩ = some v := fun o v hv => (hs2.out.bel.cell (p := ⟨qb, o, none⟩) hqlt).trans hv
          have p0 := go _ _ (hqc k _ HE.out 0 _ rfl)
          have p1 := go _ _ (hqc k _ HE.out 1 _ rfl)
          have p2 := go _ _ (hqc k _ HE.out 2 _ rfl)
          rw [Nat.add_zero] at p0
          obtain ⟨n, hn, hown⟩ := hs2.out.mp
          have hnl : n < maxLen := by have := upto_le (R := R) i k; unfold maxLen; omega
          have hB := hs2.out.bel
          have hBs := hB.size
          have hownX := hown.alloc (.cells #[.string pk, .string pv, .bool pg] 49)
          have hBX : Below W.heap.size W (wr.alloc (.cells #[.string pk, .string pv, .bool pg] 49)) := hB.alloc hBs _
          have hkey : keyOf Tryz.prog 9 (.string pk) = some (kl pk) := WideMaps.keyOf_string_mk Tryz.underlying9 (by unfold maxLen; omega)
          obtain ⟨w1, hrun, hown1, hgr⟩ := hownX.update hkd Tryz.underlying89 hnl hkey (rd_mk pk pv pg)
          have HN : Hid (Sm W W.heap.size R i (k + 1) w1) := by
            refine ⟨hBX.grown hgr hBX.size (fun j hj => by have := Option.some.inj hj; omega), n + 1, ?_, ?_⟩
            · rw [upto_next HRI.out HE.out, List.length_append, List.length_singleton]; omega
            · rw [upto_next HRI.out HE.out, ev_app, ← dm_put (ev_asc _)]
              exact hown1
          clear hpe hqc go hs2 hown hownX hown1 hgr hB hBX hkey hok
          go_wp2
          go_roundw
          case rel => exact ⟨k + 1, by omega, by go_num, HN⟩
          case measure => simp [intOf]; omega
        · obtain rfl : k = rl.length := by omega
          have HN : Hid (Sm W W.heap.size R (i + 1) 0 wr) := by
            obtain ⟨h1, h2⟩ := hs2.out
            rw [upto_row HRI.out] at h2
            exact ⟨h1, h2⟩
          clear hs2
          go_wp2
          go_roundw
          case rel => exact ⟨i + 1, by omega, by go_num, HN⟩
          case measure => simp [intOf]; omega
    · obtain rfl : i = R.length := by omega
      obtain ⟨h1, n, hn, hown⟩ := hst.out
      rw [upto_all] at hn hown
      have hln : (ev R.flatten).length ≤ 200000 := by have := ev_len R.flatten; omega
      have hkc := itl.keys_call (some W.heap.size) wr
      have hsc := itl.sorted_call W.heap.size n (dm (ev R.flatten)) rd wr hown (by rw [dm_size]; unfold maxLen; omega) (by rw [dm_size]; omega)
      have HOWN : Hid (wr.ownsMap Tryz.prog 9 rd W.heap.size n (dm (ev R.flatten))) := hown
      have hb2 : Below w.heap.size w wr := hBW.trans (h1.mono hBW.size)
      have hal2 : Below wr.heap.size wr (wr.alloc (.cells #[.map (some W.heap.size)] 89)) := (Below.refl _ _).alloc (Nat.le_refl _) _
      clear hst HS0 hown
      go_wp2_with (go_at_call 64; fail)
      refine hkc.mono ?_
      rintro e w4 ⟨rfl, rfl⟩
      clear hkc
      go_wp2_with (go_at_call 63; fail)
      refine hsc.mono ?_
      rintro e w5 ⟨v5, ss, rfl, hp5, ho5, _, hb5⟩
      clear hsc
      rw [dm_keys] at hp5
      obtain ⟨L, hL⟩ : ∃ L, ev R.flatten = L := ⟨_, rfl⟩
      have HA : Hid (mgp.Asc L) := hL ▸ ev_asc R.flatten
      rw [sorted_keys (ev_asc R.flatten) hp5, hp5.length_eq, hL] at ho5
      rw [keys_cells, show (bts L).length = L.length by unfold bts; rw [List.length_map]] at ho5
      obtain ⟨ka, kc, rfl, hkr⟩ := own_row cT_len ho5
      have HKR : Hid (Row cT 1 w5 w5.heap.size ka L) := hkr
      have hb15 : Below wr.heap.size wr w5 := hal2.trans (hb5.mono hal2.size)
      have HM5 : Hid (w5.ownsMap Tryz.prog 9 rd W.heap.size n (dm L)) := by rw [← hL]; exact own_map HOWN.out hb15
      have HOE : Hid (∀ e ∈ L, bo.okP e) := by
        unfold Hid
        rw [← hL]
        exact ev_ok (fun e he => by obtain ⟨l, hl, hel⟩ := List.mem_flatten.1 he; exact HOK.out l hl e hel)
      rw [hL] at hln
      have hbw5 : Below w.heap.size w w5 := hb2.trans (hb15.mono hb2.size)
      have HS5 : Hid (S5 w5 L 0 (.slice none 0 0) w5) := ⟨Below.refl _ _, World.ownsRow_nil w5 w5.heap.size _ 3⟩
      have HRP : Hid (rep s = L.filter kp) := by unfold Hid; rw [HRep.out, hL]
      clear ho5 hkr hb15 hp5 hb5 hal2 HOWN hL HRep
      obtain ⟨i0, hif, hz0, hz1, hz2⟩ := sct.infoP
      go_wp2
      go_loopw [10, 42] (fun v x wr => ∃ k : Nat, k ≤ L.length ∧ x = .int .i64 k ∧ Hid (S5 w5 L k v wr)) (fun _ x _ => L.length - (intOf x).toNat)
      case atStart => exact ⟨0, Nat.zero_le _, rfl, HS5⟩
      case round =>
        obtain ⟨k, hk, rfl, hst⟩ := hrel
        clear HS5
        by_cases hkl : k < L.length
        · obtain ⟨s1, s2⟩ := hst.out
          have s6 := s1.size
          have i2 : (k : Int) < (L.length : Int) := by omega
          have HG : Hid (L[k]? = some L[k]) := List.getElem?_eq_getElem hkl
          have hlk := look (own_map HM5.out s1) HA.out (List.getElem_mem hkl) (HOE.out L[k] (List.getElem_mem hkl)).2.1
          obtain ⟨⟨pk, pv, pg⟩, he⟩ : ∃ e, L[k] = e := ⟨_, rfl⟩
          rw [he] at HG hlk
          obtain ⟨b, off, rfl, hlt, hc⟩ := HKR.out.resolve_left (by rintro rfl; simp at hkl)
          have c0 : wr.cell? ⟨b, off + k, none⟩ = some (.string pk) := (s1.cell (p := ⟨b, off + k, none⟩) hlt).trans (by have := hc k _ HG.out 0 _ rfl; simpa using this)
          have hlen : ((L.take k).filter kp).length ≤ 200000 := by have := List.length_filter_le kp (L.take k); rw [List.length_take] at this; omega
          have hal5 : Below wr.heap.size wr (wr.alloc (.cells #[.string pk, .string pv, .bool pg] 49)) := (Below.refl _ _).alloc (Nat.le_refl _) _
          have hsa : Below w5.heap.size w5 (wr.alloc (.cells #[.string pk, .string pv, .bool pg] 49)) := s1.trans (hal5.mono s6)
          have s2a := gbs.own_on s2 hal5
          clear he hc
          cases pg with
          | true =>
            have HN : Hid ((L.take (k + 1)).filter kp = (L.take k).filter kp) := nx_no HG.out rfl
            have hst2 : Hid (S5 w5 L (k + 1) u10 (wr.alloc (.cells #[.string pk, .string pv, .bool true] 49))) := by
              unfold Hid S5
              rw [HN.out]
              exact ⟨hsa, s2a⟩
            clear hst s1 s2 s2a hsa hal5
            go_wp2
            go_roundw
            case rel => exact ⟨k + 1, by omega, by go_num, hst2⟩
            case measure => simp [intOf]; omega
          | false =>
            have HN : Hid ((L.take (k + 1)).filter kp = (L.take k).filter kp ++ [⟨pk, pv, false⟩]) := nx_yes HG.out rfl
            obtain ⟨X, hX⟩ : ∃ X, wr.alloc (.cells #[.string pk, .string pv, .bool false] 49) = X := ⟨_, rfl⟩
            have hXs : X.heap.size = wr.heap.size + 1 := by rw [← hX]; simp
            rw [hX] at hsa s2a
            have hal6 : Below X.heap.size X (X.alloc (.cells #[.string pk, .string pv, .bool false] 49)) := (Below.refl _ _).alloc (Nat.le_refl _) _
            have hsb : Below w5.heap.size w5 (X.alloc (.cells #[.string pk, .string pv, .bool false] 49)) := hsa.trans (hal6.mono hsa.size)
            obtain ⟨v', Y4, hr, ho, hg, _, hat⟩ := run_append_own_at (P := Tryz.prog) (X.alloc (.cells #[.string pk, .string pv, .bool false] 49)) w5.heap.size 24 24 49 i0 (.agg #[.string ByteArray.empty, .string ByteArray.empty, .bool false]) 3 40 Tryz.underlying24 hif hz0 hz1 hz2 rfl (by decide) u10 _ _ (gbs.own_on s2a hal6) ⟨X.heap.size, 0, none⟩ 1 1 [.string pk, .string pv, .bool false] rfl (fun j u hu => by rw [sct.add0]; exact bcell (bnew X _ _) (by simpa using hu)) (by intro u hu; simp at hu; rcases hu with rfl | rfl | rfl <;> rfl) (by unfold maxLen; omega) (by omega) hsb.size
            have hst2 : Hid (S5 w5 L (k + 1) v' Y4) := by
              unfold Hid S5
              rw [HN.out, List.length_append, List.flatMap_append]
              exact ⟨hsb.grown hg hsb.size (fun b hb => (s2a.lt b hb).1), by simpa [flP.c] using ho⟩
            rw [hXs, ← hX] at hr
            clear ho hg hal5 hst hat s1 s2 s2a hsa hsb hal6 hX hXs
            go_wp2_with (at_builtin; refine cpr.wpList_append_run rfl _ _ _ _ rfl _ _ _ rfl rfl hr ?_)
            go_roundw
            case rel => exact ⟨k + 1, by omega, by go_num, hst2⟩
            case measure => simp [intOf]; omega
        · obtain rfl : k = L.length := by omega
          have HFN : Hid (∃ v, Ending.returned u10 = .returned v ∧ wr.ownsRow w.heap.size 49 3 v (rep s).length ((rep s).flatMap flP.c) ∧ Below w.heap.size w wr) := by
            unfold Hid
            have h2 := hst.out.2
            rw [List.take_length] at h2
            rw [HRP.out]
            exact ⟨u10, rfl, sct.own_low h2 hbw5.size, hbw5.trans (hst.out.1.mono hbw5.size)⟩
          clear hst
          go_wp2
          go_ret
          exact HFN.out
end Go.Proofs.YtlgcciaebkfnjaaGreatDoor.rpi

/- StoreOk: the specification and the program tell the same of a store. -/
namespace Go.Proofs.YtlgcciaebkfnjaaGreatDoor.sok
open Go.ChangeShapes Go.WideShapes Go.ChangeAt Go.RowKit Go.Proofs.YtlgcciaebkfnjaaGreatDoor.fl Go.Proofs.YtlgcciaebkfnjaaGreatDoor.rn Go.Proofs.YtlgcciaebkfnjaaGreatDoor.sci Go.Proofs.YtlgcciaebkfnjaaGreatDoor.tk Go.Proofs.YtlgcciaebkfnjaaGreatDoor.tko Go.Proofs.YtlgcciaebkfnjaaGreatDoor.sam Go.Proofs.YtlgcciaebkfnjaaGreatDoor.rcp Go.Proofs.YtlgcciaebkfnjaaGreatDoor.rcm Go.Proofs.YtlgcciaebkfnjaaGreatDoor.rpp Go.Proofs.YtlgcciaebkfnjaaGreatDoor.rcI
set_option linter.unusedVariables false

noncomputable def all0 (ys : List flP.Pr) (R : List (List flP.Pr)) : List flP.Pr := scan ys R ⟨#[]⟩ ⟨#[]⟩
noncomputable def okS (ys : List flP.Pr) (R : List (List flP.Pr)) (lg : ByteArray) (sf : Int) : Bool :=
  okB ys R && (decide (0 ≤ sf ∧ sf ≤ lg.size) && (decide ((recs lg).2 = lg.size) && (decide ((all0 ys R).length ≤ 300) && sameL (rep lg) (all0 ys R))))
theorem okS_1 {ys : List flP.Pr} {R : List (List flP.Pr)} {lg : ByteArray} {sf : Int} (h : okB ys R = false) : okS ys R lg sf = false := by unfold okS; rw [h]; rfl
theorem okS_2 {ys : List flP.Pr} {R : List (List flP.Pr)} {lg : ByteArray} {sf : Int} (h : ¬ (0 ≤ sf ∧ sf ≤ lg.size)) : okS ys R lg sf = false := by unfold okS; rw [decide_eq_false h]; simp
theorem okS_3 {ys : List flP.Pr} {R : List (List flP.Pr)} {lg : ByteArray} {sf : Int} (h : (recs lg).2 ≠ lg.size) : okS ys R lg sf = false := by unfold okS; rw [decide_eq_false h]; simp
theorem okS_4 {ys : List flP.Pr} {R : List (List flP.Pr)} {lg : ByteArray} {sf : Int} (h : ¬ (all0 ys R).length ≤ 300) : okS ys R lg sf = false := by unfold okS; rw [decide_eq_false h]; simp
theorem okS_5 {ys : List flP.Pr} {R : List (List flP.Pr)} {lg : ByteArray} {sf : Int} (h1 : okB ys R = true) (h2 : 0 ≤ sf ∧ sf ≤ lg.size) (h3 : (recs lg).2 = lg.size) (h4 : (all0 ys R).length ≤ 300) : okS ys R lg sf = sameL (rep lg) (all0 ys R) := by unfold okS; rw [h1, decide_eq_true h2, decide_eq_true h3, decide_eq_true h4]; rfl
theorem okS_6 {ys : List flP.Pr} {R : List (List flP.Pr)} {lg : ByteArray} {sf : Int} (h : ¬ (rep lg).length ≤ 300) : okS ys R lg sf = false := by
  by_cases h4 : (all0 ys R).length ≤ 300
  · have h5 : sameL (rep lg) (all0 ys R) = false := sameL_no (fun e => h (by rw [e]; exact h4))
    unfold okS
    rw [h5]
    simp
  · exact okS_4 h4
theorem okS_7 {ys : List flP.Pr} {R : List (List flP.Pr)} {lg : ByteArray} {sf : Int} (h1 : okB ys R = true) (h2 : 0 ≤ sf ∧ sf ≤ lg.size) (h3 : (recs lg).2 = lg.size) (h4 : (rep lg).length ≤ 300) : okS ys R lg sf = sameL (rep lg) (all0 ys R) := by
  by_cases h5 : (all0 ys R).length ≤ 300
  · exact okS_5 h1 h2 h3 h5
  · rw [okS_4 h5]
    exact (sameL_no (fun e => h5 (by rw [← e]; exact h4))).symm

set_option maxRecDepth 100000 in
set_option maxHeartbeats 4000000 in
theorem spec_ok (ys : List flP.Pr) (rs : List Rn) (yp : Addr) (ra : Option Addr) (yc rc : Nat) (lg : ByteArray) (sf : Int) (w : World) (F : tb.Fit ys rs) (hlg : lg.size ≤ 1048576) (hsf : (Lit.int .i64 sf).wf = true) (hY : Row flP.c 3 w w.heap.size (some yp) ys) (hR : VR w w.heap.size ra rs) :
    Calls Tryz.prog 21 #[.agg #[.slice (some yp) ys.length yc, .slice ra rs.length rc, .string lg, .int .i64 sf]] w fun r w' => r = .returned (.bool (okS ys (rs.map (·.l)) lg sf)) ∧ Below w.heap.size w w' := by
  have hb : Below w.heap.size w (w.alloc (.cells #[.slice (some yp) ys.length yc, .slice ra rs.length rc, .string lg, .int .i64 sf] 29)) := (Below.refl _ _).alloc (Nat.le_refl _) _
  have hA := bnew w #[.slice (some yp) ys.length yc, .slice ra rs.length rc, .string lg, .int .i64 sf] 29
  obtain ⟨W, hW⟩ : ∃ W, w.alloc (.cells #[.slice (some yp) ys.length yc, .slice ra rs.length rc, .string lg, .int .i64 sf] 29) = W := ⟨_, rfl⟩
  rw [hW] at hb hA
  have hlt := (Array.getElem?_eq_some_iff.1 hA).1
  have hok := tko.spec_okb ys rs (some yp) ra yc rc W F (hY.inn hb) (hR.inn hb)
  have HY : Hid (Row flP.c 3 W W.heap.size (some yp) ys) := hY.inn hb
  have HR : Hid (VR W W.heap.size ra rs) := hR.inn hb
  have HF : Hid (tb.Fit ys rs) := F
  have BX : Hid (∀ w', Below W.heap.size W w' → w'.cell? ⟨w.heap.size, 0, none⟩ = some (.slice (some yp) ys.length yc) ∧ w'.cell? ⟨w.heap.size, 1, none⟩ = some (.slice ra rs.length rc) ∧ w'.cell? ⟨w.heap.size, 2, none⟩ = some (.string lg) ∧ w'.cell? ⟨w.heap.size, 3, none⟩ = some (.int .i64 sf)) := fun w' h => by
    have h1 := bstay hA h hlt
    exact ⟨bcell h1 rfl, bcell h1 rfl, bcell h1 rfl, bcell h1 rfl⟩
  obtain ⟨c0, c1, c2, c3⟩ := BX.out W (Below.refl _ _)
  obtain ⟨R, hRl⟩ : ∃ R, rs.map (·.l) = R := ⟨_, rfl⟩
  have HRL : Hid (rs.map (·.l) = R) := hRl
  rw [hRl] at hok ⊢
  obtain ⟨ok, hok1⟩ : ∃ ok, okB ys R = ok := ⟨_, rfl⟩
  have HOK : Hid (okB ys R = ok) := hok1
  rw [hok1] at hok
  obtain ⟨an, han⟩ : ∃ an, okS ys R lg sf = an := ⟨_, rfl⟩
  have HAN : Hid (okS ys R lg sf = an) := han
  rw [han]
  clear hY hR hA hRl hok1 F han
  go_enter Tryz.func21, Tryz.ntmps21
  go_wp2_with (go_at_call 59; fail)
  clear hW
  refine hok.mono ?_
  rintro e w1 ⟨rfl, hb1⟩
  obtain ⟨d0, d1, d2, d3⟩ := BX.out w1 hb1
  have hB1 : Below w.heap.size w w1 := hb.trans (hb1.mono hb.size)
  clear hok c0 c1 c2 c3
  cases ok with
  | false =>
    obtain rfl : an = false := HAN.out.symm.trans (okS_1 HOK.out)
    go_wp2
    go_ret
    exact ⟨rfl, hB1⟩
  | true =>
    have hin := ky.within sf 0 (lg.size : Int) w1
    by_cases hsa : 0 ≤ sf ∧ sf ≤ (lg.size : Int)
    case neg =>
      rw [decide_eq_false hsa] at hin
      obtain rfl : an = false := HAN.out.symm.trans (okS_2 hsa)
      go_wp2_with (go_at_call 60; fail)
      refine hin.mono ?_
      rintro e w2 ⟨rfl, hw2⟩
      obtain rfl := hw2
      clear hin
      go_wp2
      go_ret
      exact ⟨rfl, hB1⟩
    rw [decide_eq_true hsa] at hin
    have hrc := rcS.spec_recs lg w1 hlg
    go_wp2_with (go_at_call 60; fail)
    refine hin.mono ?_
    rintro e w2 ⟨rfl, hw2⟩
    obtain rfl := hw2
    clear hin
    go_wp2_with (go_at_call 55; fail)
    refine hrc.mono ?_
    rintro e w3 ⟨v3, rfl, _, _, hro⟩
    have hb13 := hro.bel
    have hB13 : Below W.heap.size W w3 := hb1.trans (hb13.mono hb1.size)
    obtain ⟨d0, d1, d2, d3⟩ := BX.out w3 hB13
    have hsc := scs.spec_scan ys rs yp ra yc rc ⟨#[]⟩ ⟨#[]⟩ w3 HF.out (HY.out.inn hB13) (HR.out.inn hB13)
    rw [HRL.out] at hsc
    have hsc' : Calls Tryz.prog 41 #[.agg #[.slice (some yp) ys.length yc, .slice ra rs.length rc], .string ⟨#[]⟩, .string ⟨#[]⟩] w3 fun r w' => ∃ v, r = .returned v ∧ w'.ownsRow w3.heap.size 49 3 v (all0 ys R).length ((all0 ys R).flatMap flP.c) ∧ Below w3.heap.size w3 w' := hsc
    obtain ⟨al, hal⟩ : ∃ al, all0 ys R = al := ⟨_, rfl⟩
    have HAL : Hid (all0 ys R = al) := hal
    rw [hal] at hsc'
    have hBw3 : Below w.heap.size w w3 := hb.trans (hB13.mono hb.size)
    clear hrc hro hsc hal hb13
    go_wp2_with (go_at_call 41; fail)
    refine hsc'.mono ?_
    rintro e w4 ⟨v4, rfl, ho4, hb4⟩
    have hlm := len_of ho4
    obtain ⟨aa, ac, rfl, hra⟩ := own_row flP.c_len ho4
    have hB4 : Below w.heap.size w w4 := hBw3.trans (hb4.mono hBw3.size)
    have hB14 : Below W.heap.size W w4 := hB13.trans (hb4.mono hB13.size)
    obtain ⟨e0, e1, e2, e3⟩ := BX.out w4 hB14
    have hlm' : al.length ≤ 9223372036854775807 := hlm
    clear hsc' ho4 d0 d1 d2 d3
    by_cases h3 : (recs lg).2 = (lg.size : Int)
    case neg =>
      obtain rfl : an = false := HAN.out.symm.trans (okS_3 h3)
      obtain ⟨z, hz⟩ : ∃ z, (recs lg).2 = z := ⟨_, rfl⟩
      rw [hz] at h3 ⊢
      clear hz
      go_wp2
      go_ret
      exact ⟨rfl, hB4⟩
    by_cases h4 : al.length ≤ 300
    case neg =>
      obtain rfl : an = false := HAN.out.symm.trans (okS_4 (by rw [HAL.out]; exact h4))
      rw [h3]
      have h4' : ¬ ((al.length : Int) ≤ 300) := by omega
      go_wp2
      go_ret
      exact ⟨rfl, hB4⟩
    have HAN2 : Hid (sameL (rep lg) al = an) := by unfold Hid; rw [← HAL.out, ← okS_5 HOK.out hsa h3 (by rw [HAL.out]; exact h4)]; exact HAN.out
    rw [h3]
    have h4' : (al.length : Int) ≤ 300 := by omega
    have hrp := rps.spec_replay lg w4 hlg
    obtain ⟨rp, hrpe⟩ : ∃ rp, rep lg = rp := ⟨_, rfl⟩
    rw [hrpe] at hrp
    have HRP : Hid (rep lg = rp) := hrpe
    have HRA : Hid (Row flP.c 3 w4 w4.heap.size aa al) := hra
    clear h3 hra hrpe
    go_wp2_with (go_at_call 56; fail)
    refine hrp.mono ?_
    rintro e w5 ⟨v5, rfl, ho5, hb5⟩
    have hlr := len_of ho5
    obtain ⟨ba, bc, rfl, hrb⟩ := own_row flP.c_len ho5
    have hsm := spec_same rp al ba aa bc ac w5 hlr hlm hrb (HRA.out.inn hb5)
    have hB5 : Below w.heap.size w w5 := hB4.trans (hb5.mono hB4.size)
    have hsme : sameL rp al = an := by rw [← HRP.out]; exact HAN2.out
    rw [hsme] at hsm
    clear hrp ho5 hrb hsme
    go_wp2_with (go_at_call 61; fail)
    refine hsm.mono ?_
    rintro e w6 ⟨rfl, hb6⟩
    have hB6 : Below w.heap.size w w6 := hB5.trans (hb6.mono hB5.size)
    clear hsm
    go_wp2
    go_ret
    exact ⟨rfl, hB6⟩

set_option maxRecDepth 100000 in
set_option maxHeartbeats 4000000 in
theorem impl_ok (ys : List flP.Pr) (rs : List Rn) (ya : Option Addr) (q : Addr) (yc rc : Nat) (lg : ByteArray) (sf : Int) (w : World) (F : tb.Fit ys rs) (hlg : lg.size ≤ 1048576) (hsf : (Lit.int .i64 sf).wf = true) (hT : TB w) (hyc : ys.length ≤ yc) (hrc : ∀ r ∈ rs, r.l.length ≤ r.c) (hY : Row flP.c 3 w w.heap.size ya ys) (hR : VR w w.heap.size (some q) rs) :
    Calls Tryz.prog 20 #[.agg #[.slice ya ys.length yc, .slice (some q) rs.length rc, .string lg, .int .i64 sf]] w fun r w' => r = .returned (.bool (okS ys (rs.map (·.l)) lg sf)) ∧ Below w.heap.size w w' := by
  have hb : Below w.heap.size w (w.alloc (.cells #[.slice ya ys.length yc, .slice (some q) rs.length rc, .string lg, .int .i64 sf] 29)) := (Below.refl _ _).alloc (Nat.le_refl _) _
  have hA := bnew w #[.slice ya ys.length yc, .slice (some q) rs.length rc, .string lg, .int .i64 sf] 29
  obtain ⟨W, hW⟩ : ∃ W, w.alloc (.cells #[.slice ya ys.length yc, .slice (some q) rs.length rc, .string lg, .int .i64 sf] 29) = W := ⟨_, rfl⟩
  rw [hW] at hb hA
  have hlt := (Array.getElem?_eq_some_iff.1 hA).1
  have hok := tko.impl_okb ys rs ya (some q) yc rc W F (hY.inn hb) (hR.inn hb)
  have HY : Hid (Row flP.c 3 W W.heap.size ya ys) := hY.inn hb
  have HR : Hid (VR W W.heap.size (some q) rs) := hR.inn hb
  have HF : Hid (tb.Fit ys rs) := F
  have HT : Hid (TB W) := hT.on hb
  have HRC : Hid (∀ r ∈ rs, r.l.length ≤ r.c) := hrc
  have BX : Hid (∀ w', Below W.heap.size W w' → w'.cell? ⟨w.heap.size, 0, none⟩ = some (.slice ya ys.length yc) ∧ w'.cell? ⟨w.heap.size, 1, none⟩ = some (.slice (some q) rs.length rc) ∧ w'.cell? ⟨w.heap.size, 2, none⟩ = some (.string lg) ∧ w'.cell? ⟨w.heap.size, 3, none⟩ = some (.int .i64 sf)) := fun w' h => by
    have h1 := bstay hA h hlt
    exact ⟨bcell h1 rfl, bcell h1 rfl, bcell h1 rfl, bcell h1 rfl⟩
  obtain ⟨c0, c1, c2, c3⟩ := BX.out W (Below.refl _ _)
  obtain ⟨R, hRl⟩ : ∃ R, rs.map (·.l) = R := ⟨_, rfl⟩
  have HRL : Hid (rs.map (·.l) = R) := hRl
  rw [hRl] at hok ⊢
  obtain ⟨ok, hok1⟩ : ∃ ok, okB ys R = ok := ⟨_, rfl⟩
  have HOK : Hid (okB ys R = ok) := hok1
  rw [hok1] at hok
  obtain ⟨an, han⟩ : ∃ an, okS ys R lg sf = an := ⟨_, rfl⟩
  have HAN : Hid (okS ys R lg sf = an) := han
  rw [han]
  clear hY hR hA hRl hok1 F hT hrc han
  go_enter Tryz.func20, Tryz.ntmps20
  go_wp2_with (go_at_call 57; fail)
  clear hW
  refine hok.mono ?_
  rintro e w1 ⟨rfl, hb1⟩
  obtain ⟨d0, d1, d2, d3⟩ := BX.out w1 hb1
  have hB1 : Below w.heap.size w w1 := hb.trans (hb1.mono hb.size)
  clear hok c0 c1 c2 c3
  cases ok with
  | false =>
    obtain rfl : an = false := HAN.out.symm.trans (okS_1 HOK.out)
    go_wp2
    go_ret
    exact ⟨rfl, hB1⟩
  | true =>
    by_cases hs0 : sf < 0
    · obtain rfl : an = false := HAN.out.symm.trans (okS_2 (by omega))
      go_wp2
      go_ret
      exact ⟨rfl, hB1⟩
    by_cases hs1 : (lg.size : Int) < sf
    · obtain rfl : an = false := HAN.out.symm.trans (okS_2 (by omega))
      go_wp2
      go_ret
      exact ⟨rfl, hB1⟩
    have hrc := impl_recs lg w1 hlg (HT.out.on hb1)
    go_wp2_with (go_at_call 54; fail)
    refine hrc.mono ?_
    rintro e w3 ⟨v3, rfl, _, _, hro⟩
    have hb13 := hro.bel
    have hB13 : Below W.heap.size W w3 := hb1.trans (hb13.mono hb1.size)
    have hBw3 : Below w.heap.size w w3 := hb.trans (hB13.mono hb.size)
    clear hrc hro hb13 d0 d1 d2 d3
    obtain ⟨d0, d1, d2, d3⟩ := BX.out w3 hB13
    by_cases h3 : (recs lg).2 = (lg.size : Int)
    case neg =>
      obtain rfl : an = false := HAN.out.symm.trans (okS_3 h3)
      obtain ⟨z, hz⟩ : ∃ z, (recs lg).2 = z := ⟨_, rfl⟩
      rw [hz] at h3 ⊢
      clear hz
      go_wp2
      go_ret
      exact ⟨rfl, hBw3⟩
    have H3 : Hid ((recs lg).2 = (lg.size : Int)) := h3
    rw [h3]
    have hrp := rpi.impl_replay lg w3 hlg (HT.out.on hB13)
    obtain ⟨rp, hrpe⟩ : ∃ rp, rep lg = rp := ⟨_, rfl⟩
    have HRP : Hid (rep lg = rp) := hrpe
    rw [hrpe] at hrp
    clear h3 hrpe
    go_wp2_with (go_at_call 26; fail)
    refine hrp.mono ?_
    rintro e w4 ⟨v4, rfl, ho4, hb4⟩
    have hlm := len_of ho4
    have hlm' : rp.length ≤ 9223372036854775807 := hlm
    obtain ⟨aa, ac, rfl, hra⟩ := own_row flP.c_len ho4
    have hB4 : Below w.heap.size w w4 := hBw3.trans (hb4.mono hBw3.size)
    have hB14 : Below W.heap.size W w4 := hB13.trans (hb4.mono hB13.size)
    clear hrp ho4 d0 d1 d2 d3
    obtain ⟨e0, e1, e2, e3⟩ := BX.out w4 hB14
    by_cases h4 : rp.length ≤ 300
    case neg =>
      obtain rfl : an = false := HAN.out.symm.trans (okS_6 (by rw [HRP.out]; exact h4))
      have h4' : ¬ ((rp.length : Int) ≤ 300) := by omega
      go_wp2
      go_ret
      exact ⟨rfl, hB4⟩
    have h4' : (rp.length : Int) ≤ 300 := by omega
    have HAN2 : Hid (sameL rp (all0 ys R) = an) := by unfold Hid; rw [← HRP.out, ← okS_7 HOK.out (by omega) H3.out (by rw [HRP.out]; exact h4)]; exact HAN.out
    have HRA : Hid (Row flP.c 3 w4 w4.heap.size aa rp) := hra
    have hal := sal.impl_all ys rs ya q yc rc lg sf w4 HF.out hyc HRC.out (HY.out.inn hB14) (HR.out.inn hB14)
    rw [HRL.out] at hal
    have hal' : Calls Tryz.prog 24 #[.agg #[.slice ya ys.length yc, .slice (some q) rs.length rc, .string lg, .int .i64 sf]] w4 fun r w' => ∃ v, r = .returned v ∧ (all0 ys R).length ≤ 6000 ∧ w'.ownsRow w4.heap.size 49 3 v (all0 ys R).length ((all0 ys R).flatMap flP.c) ∧ Below w4.heap.size w4 w' := hal
    obtain ⟨al, hale⟩ : ∃ al, all0 ys R = al := ⟨_, rfl⟩
    rw [hale] at hal'
    have HAL : Hid (all0 ys R = al) := hale
    clear hal hale hra
    go_wp2_with (go_at_call 24; fail)
    refine hal'.mono ?_
    rintro e w5 ⟨v5, rfl, _, ho5, hb5⟩
    have hlr := len_of ho5
    obtain ⟨ba, bc, rfl, hrb⟩ := own_row flP.c_len ho5
    have hsm := impl_same rp al aa ba ac bc w5 hlm hlr (HRA.out.inn hb5) hrb
    have hB5 : Below w.heap.size w w5 := hB4.trans (hb5.mono hB4.size)
    have hsme : sameL rp al = an := by rw [← HAL.out]; exact HAN2.out
    rw [hsme] at hsm
    clear hal' ho5 hrb hsme
    go_wp2_with (go_at_call 58; fail)
    refine hsm.mono ?_
    rintro e w6 ⟨rfl, hb6⟩
    have hB6 : Below w.heap.size w w6 := hB5.trans (hb6.mono hB5.size)
    clear hsm
    go_wp2
    go_ret
    exact ⟨rfl, hB6⟩
end Go.Proofs.YtlgcciaebkfnjaaGreatDoor.sok

/- The law of StoreOk, walked: at every store the program answers as the specification. -/
namespace Go.Proofs.YtlgcciaebkfnjaaGreatDoor.lwStoreOk
open Go.ChangeShapes Go.WideShapes Go.ChangeAt Go.RowKit Go.Proofs.YtlgcciaebkfnjaaGreatDoor.fl Go.Proofs.YtlgcciaebkfnjaaGreatDoor.rn Go.Proofs.YtlgcciaebkfnjaaGreatDoor.tb Go.Proofs.YtlgcciaebkfnjaaGreatDoor.sto
set_option linter.unusedVariables false

set_option maxRecDepth 100000 in
set_option maxHeartbeats 4000000 in
theorem walk (ys : List flP.Pr) (rs : List Rn) (ya ra : Option Addr) (yc rc : Nat) (lg : ByteArray) (sf : Int) (w : World) (hT : rcI.TB w) (hsf : (Lit.int .i64 sf).wf = true) (hyl : ys.length ≤ maxLen) (hrl : rs.length ≤ maxLen) (hyo : ∀ e ∈ ys, flP.ok e) (hro : ∀ e ∈ rs, okR e) (hlg : lg.size ≤ maxLen) (hY : Row flP.c 3 w w.heap.size ya ys) (hR : VR w w.heap.size ra rs) :
    Calls Tryz.prog 4 #[.agg #[.slice ya ys.length yc, .slice ra rs.length rc, .string lg, .int .i64 sf]] w fun e w' => e = .returned (.bool true) ∧ Below w.heap.size w w' := by
  have HT : Hid (rcI.TB w) := hT
  have HSF : Hid ((Lit.int .i64 sf).wf = true) := hsf
  clear hT hsf
  have hb : Below w.heap.size w (w.alloc (.cells #[.slice ya ys.length yc, .slice ra rs.length rc, .string lg, .int .i64 sf] 57)) := (Below.refl _ _).alloc (Nat.le_refl _) _
  have hA := bnew w #[.slice ya ys.length yc, .slice ra rs.length rc, .string lg, .int .i64 sf] 57
  obtain ⟨W, hW⟩ : ∃ W, w.alloc (.cells #[.slice ya ys.length yc, .slice ra rs.length rc, .string lg, .int .i64 sf] 57) = W := ⟨_, rfl⟩
  rw [hW] at hb hA
  have hlt := (Array.getElem?_eq_some_iff.1 hA).1
  have HSE : Hid (Row flP.c 3 W W.heap.size ya ys) := hY.inn hb
  have HSB : Hid (VR W W.heap.size ra rs) := hR.inn hb
  have hsz := sz_store ys rs ya ra yc rc lg sf W hyl hrl hyo hro hlg HSE.out HSB.out
  have HA : Hid (W.heap[w.heap.size]? = some (.cells #[.slice ya ys.length yc, .slice ra rs.length rc, .string lg, .int .i64 sf] 57 (0, 0))) := hA
  have BOX : Hid (∀ w', Below W.heap.size W w' → w'.cell? ⟨w.heap.size, 0, none⟩ = some (.slice ya ys.length yc) ∧ w'.cell? ⟨w.heap.size, 1, none⟩ = some (.slice ra rs.length rc) ∧ w'.cell? ⟨w.heap.size, 2, none⟩ = some (.string lg) ∧ w'.cell? ⟨w.heap.size, 3, none⟩ = some (.int .i64 sf)) := fun w' h => ⟨bcell (bstay HA.out h hlt) rfl, bcell (bstay HA.out h hlt) rfl, bcell (bstay HA.out h hlt) rfl, bcell (bstay HA.out h hlt) rfl⟩
  obtain ⟨c0, c1, c2, c3⟩ := BOX.out W (Below.refl _ _)
  have HOR : Hid (∀ e ∈ rs, okR e) := hro
  clear hY hR hA hyo hro
  go_enter Tryz.func4, Tryz.ntmps4
  go_wp2_with (go_at_call 27; fail)
  clear hW
  refine hsz.mono ?_
  rintro e w1 ⟨r, rfl, hr, hb1⟩
  by_cases hneg : r < 0
  · go_wp2
    go_ret
    exact ⟨rfl, hb.trans (hb1.mono hb.size)⟩
  have hF : Hid (Fit ys rs) := fit (hr (by omega)).1
  have HLG : Hid (lg.size ≤ 1048576) := (hr (by omega)).2
  obtain ⟨x9, hx9⟩ : ∃ x9, sok.okS ys (rs.map (·.l)) lg sf = x9 := ⟨_, rfl⟩
  obtain ⟨d0, d1, d2, d3⟩ := BOX.out w1 hb1
  have ht2 := to_store ys rs ya ra yc rc lg sf w1 hF.out (HSE.out.inn hb1) (HSB.out.inn hb1)
  have hr0 : (0 : Int) ≤ r := by omega
  clear hsz hr c0 c1 c2 c3
  go_wp2_with (go_at_call 28; fail)
  refine ht2.mono ?_
  rintro e w2 ⟨g2, h2, k2, rfl, m2, _, _, re2, rb2, hb2⟩
  have l2 : k2.length = rs.length := by have := congrArg List.length m2; simpa using this
  have hsp := sok.spec_ok ys k2 ⟨g2, 0, none⟩ (some ⟨h2, 0, none⟩) ys.length rs.length lg sf w2 (hF.out.of m2) HLG.out HSF.out re2.row (OR.vr (by rw [l2]; exact rb2))
  rw [m2, l2] at hsp
  rw [hx9] at hsp
  have hB2 : Below W.heap.size W w2 := hb1.trans (hb2.mono hb1.size)
  clear ht2 d0 d1 d2 d3 re2 rb2 m2 l2
  go_wp2_with (go_at_call 21; fail)
  refine hsp.mono ?_
  rintro e w3 ⟨rfl, hb3⟩
  have hB3 : Below W.heap.size W w3 := hB2.trans (hb3.mono hB2.size)
  obtain ⟨d0, d1, d2, d3⟩ := BOX.out w3 hB3
  have ht4 := to_store ys rs ya ra yc rc lg sf w3 hF.out (HSE.out.inn hB3) (HSB.out.inn hB3)
  clear hsp
  go_wp2_with (go_at_call 28; fail)
  refine ht4.mono ?_
  rintro e w4 ⟨g4, h4, k4, rfl, m4, _, _, re4, rb4, hb4⟩
  have l4 : k4.length = rs.length := by have := congrArg List.length m4; simpa using this
  have hcp4 : ∀ r ∈ k4, r.l.length ≤ r.c := fun r hr => by
    obtain ⟨i, hi⟩ := List.getElem?_of_mem hr
    obtain ⟨_, _, hc, _⟩ := rb4.own i r hi
    omega
  have hB4 : Below W.heap.size W w4 := hB3.trans (hb4.mono hB3.size)
  have hbx : Below w4.heap.size w4 (w4.alloc (.cells #[.slice (some ⟨g4, 0, none⟩) ys.length ys.length, .slice (some ⟨h4, 0, none⟩) rs.length rs.length, .string lg, .int .i64 sf] 29)) := (Below.refl _ _).alloc (Nat.le_refl _) _
  have hx := bnew w4 #[.slice (some ⟨g4, 0, none⟩) ys.length ys.length, .slice (some ⟨h4, 0, none⟩) rs.length rs.length, .string lg, .int .i64 sf] 29
  obtain ⟨X, hX⟩ : ∃ X, w4.alloc (.cells #[.slice (some ⟨g4, 0, none⟩) ys.length ys.length, .slice (some ⟨h4, 0, none⟩) rs.length rs.length, .string lg, .int .i64 sf] 29) = X := ⟨_, rfl⟩
  rw [hX] at hbx hx
  have hxl := (Array.getElem?_eq_some_iff.1 hx).1
  have hBX : Below W.heap.size W X := hB4.trans (hbx.mono hB4.size)
  have HRE : Hid (Row flP.c 3 X X.heap.size (some ⟨g4, 0, none⟩) ys) := re4.row.inn hbx
  have HRB : Hid (VR X X.heap.size (some ⟨h4, 0, none⟩) k4) := (OR.vr (by rw [l4]; exact rb4)).inn hbx
  have him := sok.impl_ok ys k4 (some ⟨g4, 0, none⟩) ⟨h4, 0, none⟩ ys.length rs.length lg sf X (hF.out.of m4) HLG.out HSF.out (HT.out.on (hb.trans (hBX.mono hb.size))) (Nat.le_refl _) hcp4 HRE.out HRB.out
  rw [m4, l4] at him
  rw [hx9] at him
  have HX : Hid (X.heap[w4.heap.size]? = some (.cells #[.slice (some ⟨g4, 0, none⟩) ys.length ys.length, .slice (some ⟨h4, 0, none⟩) rs.length rs.length, .string lg, .int .i64 sf] 29 (0, 0))) := hx
  have HM4 : Hid (k4.map (·.l) = rs.map (·.l)) := m4
  have HL4 : Hid (k4.length = rs.length) := l4
  have y0 : X.cell? ⟨w4.heap.size, 0, none⟩ = some (.slice (some ⟨g4, 0, none⟩) ys.length ys.length) := bcell hx rfl
  have y1 : X.cell? ⟨w4.heap.size, 1, none⟩ = some (.slice (some ⟨h4, 0, none⟩) rs.length rs.length) := bcell hx rfl
  have y2 : X.cell? ⟨w4.heap.size, 2, none⟩ = some (.string lg) := bcell hx rfl
  have y3 : X.cell? ⟨w4.heap.size, 3, none⟩ = some (.int .i64 sf) := bcell hx rfl
  clear ht4 d0 d1 d2 d3 re4 rb4 hx m4 l4 hcp4 hx9
  go_wp2_with (go_at_call 20; fail)
  clear hX
  refine him.mono ?_
  rintro e w5 ⟨rfl, hb5⟩
  have hB5 : Below W.heap.size W w5 := hBX.trans (hb5.mono hBX.size)
  obtain ⟨d0, d1, d2, d3⟩ := BOX.out w5 hB5
  have y5 := bstay HX.out hb5 hxl
  have hxl5 : w4.heap.size < w5.heap.size := Nat.lt_of_lt_of_le hxl hb5.size
  have y50 : w5.cell? ⟨w4.heap.size, 0, none⟩ = some (.slice (some ⟨g4, 0, none⟩) ys.length ys.length) := bcell y5 rfl
  have y51 : w5.cell? ⟨w4.heap.size, 1, none⟩ = some (.slice (some ⟨h4, 0, none⟩) rs.length rs.length) := bcell y5 rfl
  have y52 : w5.cell? ⟨w4.heap.size, 2, none⟩ = some (.string lg) := bcell y5 rfl
  have y53 : w5.cell? ⟨w4.heap.size, 3, none⟩ = some (.int .i64 sf) := bcell y5 rfl
  have HY5 : Hid (w5.heap[w4.heap.size]? = some (.cells #[.slice (some ⟨g4, 0, none⟩) ys.length ys.length, .slice (some ⟨h4, 0, none⟩) rs.length rs.length, .string lg, .int .i64 sf] 29 (0, 0))) := y5
  have ht6 := to_store ys rs ya ra yc rc lg sf w5.drew hF.out (HSE.out.inn hB5.drew) (HSB.out.inn hB5.drew)
  have HRE5 : Hid (Row flP.c 3 w5 w5.heap.size (some ⟨g4, 0, none⟩) ys) := HRE.out.inn hb5
  have HRB5 : Hid (VR w5 w5.heap.size (some ⟨h4, 0, none⟩) k4) := HRB.out.inn hb5
  clear him y0 y1 y2 y3 y5
  go_wp2
  go_region_with (first | (go_at_call 28; refine ht6.mono ?_; rintro e w6 ⟨g6, h6, k6, rfl, m6, _, _, re6, rb6, hb6⟩; obtain ⟨hb6', q50, q51, q52, q53, heq⟩ := sto.step6 hF.out HM4.out m6 hb6 hxl5 HY5.out HRE5.out HRB5.out re6 rb6; clear re6 rb6) | (go_at_call 29; refine heq.mono ?_; rintro e w7 ⟨rfl, hb7⟩))
  all_goals go_wp2
  all_goals go_ret
  all_goals exact ⟨rfl, hb.trans ((hB5.trans ((hb6'.trans (hb7.mono hb6'.size)).mono hB5.size)).mono hb.size)⟩
end Go.Proofs.YtlgcciaebkfnjaaGreatDoor.lwStoreOk
