/- Two pairs held beside each other as a whole: what == and != of the struct answer. -/
import Derived.Shelf.SlGeneric
import Derived.Shelf.SlIter.Nil
import Derived.Shelf.SortM.Plain
import Derived.Shelf.SortM.SortNone
import Derived.Ground.GgzProg
import Derived.Ground.SlgmProg
import Derived.Test.YtjnfljipomjcjaaGreatDoorRows
import Derived.Test.YtjnfljipomjcjaaGreatDoorRk15
import Derived.Test.YtjnfljipomjcjaaGreatDoorRk13
import Derived.StringKeys
import Derived.Test.YtjnfljipomjcjaaGreatDoorFlPair
import Derived.Laws.StructEq
import Derived.Lib.Strings

/- slices.Sorted(maps.Keys(m)), laid by the kit's own program at the seat YtjnfljipomjcjaaGreatDoor, in plain words: its numbers are that seat's (layiter.py lays it anew for another). -/
namespace Go.Proofs.YtjnfljipomjcjaaGreatDoor.itl
open Go.RowKit Go.Maps Go.Sort Go.Shelf
def keysL_ren : Go.Shelf.Ren := ⟨fun | 7 => 48 | 10 => 73 | n => n, fun | 23 => 73 | 26 => 9 | 3 => 61 | 28 => 77 | 0 => 0 | 27 => 76 | 33 => 104 | 4 => 4 | n => n, fun | n => n⟩
theorem keysL : Go.Proofs.SlLaysZ.n7 Tryz.prog keysL_ren := {
  mixed := by kernel_rfl
  f7 := ⟨Tryz.f48.name, by decide, Tryz.func48.trans (congrArg some (by kernel_rfl))⟩
  f10 := ⟨Tryz.f73.name, by decide, Tryz.func73.trans (congrArg some (by kernel_rfl))⟩
  t0 := Tryz.underlying0
  a0 := Tryz.isAgg0
  z0 := Tryz.sizeOf0
  v0 := Tryz.zeroValue0
  t4 := Tryz.underlying4
  a4 := Tryz.isAgg4
  z4 := Tryz.sizeOf4
  v4 := Tryz.zeroValue4
  t23 := Tryz.underlying73
  a23 := Tryz.isAgg73
  z23 := Tryz.sizeOf73
  v23 := Tryz.zeroValue73
  t26 := Tryz.underlying9
  a26 := Tryz.isAgg9
  z26 := Tryz.sizeOf9
  v26 := Tryz.zeroValue9
  t27 := Tryz.underlying76
  a27 := Tryz.isAgg76
  z27 := Tryz.sizeOf76
  v27 := Tryz.zeroValue76
  t28 := Tryz.underlying77
  a28 := Tryz.isAgg77
  z28 := Tryz.sizeOf77
  v28 := Tryz.zeroValue77
  t33 := Tryz.underlying104
  a33 := Tryz.isAgg104
  z33 := Tryz.sizeOf104
  v33 := Tryz.zeroValue104 }
def sortedL_ren : Go.Shelf.Ren := ⟨fun | 6 => 47 | 8 => 71 | 9 => 72 | 11 => 82 | 13 => 84 | 12 => 83 | 23 => 97 | 24 => 98 | 14 => 88 | 15 => 89 | 16 => 90 | 17 => 91 | 18 => 92 | 19 => 93 | 20 => 94 | 21 => 95 | 22 => 96 | 25 => 99 | 26 => 100 | 27 => 101 | 28 => 102 | 29 => 103 | 30 => 104 | 31 => 105 | n => n, fun | 26 => 9 | 28 => 77 | 24 => 74 | 0 => 0 | 3 => 3 | 37 => 93 | 48 => 50 | 50 => 148 | 4 => 4 | 40 => 139 | 39 => 138 | 45 => 144 | 5 => 5 | 9 => 9 | 51 => 149 | 55 => 153 | 57 => 155 | 58 => 46 | 33 => 104 | n => n, fun | n => n⟩
theorem sortedL : Go.Proofs.SlLaysZ.n6 Tryz.prog sortedL_ren := {
  mixed := by kernel_rfl
  f6 := ⟨Tryz.f47.name, by decide, Tryz.func47.trans (congrArg some (by kernel_rfl))⟩
  f8 := ⟨Tryz.f71.name, by decide, Tryz.func71.trans (congrArg some (by kernel_rfl))⟩
  f11 := ⟨Tryz.f82.name, by decide, Tryz.func82.trans (congrArg some (by kernel_rfl))⟩
  t0 := Tryz.underlying0
  a0 := Tryz.isAgg0
  z0 := Tryz.sizeOf0
  v0 := Tryz.zeroValue0
  t24 := Tryz.underlying74
  a24 := Tryz.isAgg74
  z24 := Tryz.sizeOf74
  v24 := Tryz.zeroValue74
  t26 := Tryz.underlying9
  a26 := Tryz.isAgg9
  z26 := Tryz.sizeOf9
  v26 := Tryz.zeroValue9
  t28 := Tryz.underlying77
  a28 := Tryz.isAgg77
  z28 := Tryz.sizeOf77
  v28 := Tryz.zeroValue77
  i26 := by kernel_rfl }
def sortL_ren : Go.Shelf.Ren := ⟨fun | 6 => 72 | 8 => 84 | 9 => 83 | 19 => 97 | 20 => 98 | 21 => 88 | 22 => 89 | 23 => 90 | 24 => 91 | 25 => 92 | 26 => 93 | 27 => 94 | 28 => 95 | 29 => 96 | 36 => 99 | 31 => 100 | 32 => 101 | 37 => 102 | 38 => 103 | 39 => 104 | 41 => 105 | n => n, fun | 27 => 74 | 29 => 9 | 3 => 3 | 32 => 93 | 26 => 74 | 0 => 0 | 44 => 50 | 46 => 148 | 4 => 4 | 36 => 139 | 35 => 138 | 41 => 144 | 5 => 5 | 9 => 9 | 53 => 149 | 57 => 153 | 63 => 155 | 64 => 46 | n => n, fun | n => n⟩
theorem sortL : Go.Proofs.SlLaysM.n6 Tryz.prog sortL_ren := {
  mixed := by kernel_rfl
  f6 := ⟨Tryz.f72.name, by decide, Tryz.func72.trans (congrArg some (by kernel_rfl))⟩
  f8 := Tryz.func84.trans (congrArg some (by kernel_rfl))
  f9 := ⟨Tryz.f83.name, by decide, Tryz.func83.trans (congrArg some (by kernel_rfl))⟩
  f19 := Tryz.func97.trans (congrArg some (by kernel_rfl))
  f20 := Tryz.func98.trans (congrArg some (by kernel_rfl))
  f21 := ⟨Tryz.f88.name, by decide, Tryz.func88.trans (congrArg some (by kernel_rfl))⟩
  f22 := ⟨Tryz.f89.name, by decide, Tryz.func89.trans (congrArg some (by kernel_rfl))⟩
  f23 := ⟨Tryz.f90.name, by decide, Tryz.func90.trans (congrArg some (by kernel_rfl))⟩
  f24 := ⟨Tryz.f91.name, by decide, Tryz.func91.trans (congrArg some (by kernel_rfl))⟩
  f25 := ⟨Tryz.f92.name, by decide, Tryz.func92.trans (congrArg some (by kernel_rfl))⟩
  f26 := ⟨Tryz.f93.name, by decide, Tryz.func93.trans (congrArg some (by kernel_rfl))⟩
  f27 := ⟨Tryz.f94.name, by decide, Tryz.func94.trans (congrArg some (by kernel_rfl))⟩
  f28 := ⟨Tryz.f95.name, by decide, Tryz.func95.trans (congrArg some (by kernel_rfl))⟩
  f29 := ⟨Tryz.f96.name, by decide, Tryz.func96.trans (congrArg some (by kernel_rfl))⟩
  f31 := Tryz.func100.trans (congrArg some (by kernel_rfl))
  f32 := Tryz.func101.trans (congrArg some (by kernel_rfl))
  f36 := ⟨Tryz.f99.name, by decide, Tryz.func99.trans (congrArg some (by kernel_rfl))⟩
  f37 := ⟨Tryz.f102.name, by decide, Tryz.func102.trans (congrArg some (by kernel_rfl))⟩
  f38 := ⟨Tryz.f103.name, by decide, Tryz.func103.trans (congrArg some (by kernel_rfl))⟩
  f39 := ⟨Tryz.f104.name, by decide, Tryz.func104.trans (congrArg some (by kernel_rfl))⟩
  f41 := ⟨Tryz.f105.name, by decide, Tryz.func105.trans (congrArg some (by kernel_rfl))⟩
  t0 := Tryz.underlying0
  a0 := Tryz.isAgg0
  z0 := Tryz.sizeOf0
  v0 := Tryz.zeroValue0
  t3 := Tryz.underlying3
  a3 := Tryz.isAgg3
  z3 := Tryz.sizeOf3
  v3 := Tryz.zeroValue3
  t4 := Tryz.underlying4
  a4 := Tryz.isAgg4
  z4 := Tryz.sizeOf4
  v4 := Tryz.zeroValue4
  t5 := Tryz.underlying5
  a5 := Tryz.isAgg5
  z5 := Tryz.sizeOf5
  v5 := Tryz.zeroValue5
  t9 := Tryz.underlying9
  a9 := Tryz.isAgg9
  z9 := Tryz.sizeOf9
  v9 := Tryz.zeroValue9
  t26 := Tryz.underlying74
  a26 := Tryz.isAgg74
  z26 := Tryz.sizeOf74
  v26 := Tryz.zeroValue74
  t27 := Tryz.underlying74
  a27 := Tryz.isAgg74
  z27 := Tryz.sizeOf74
  v27 := Tryz.zeroValue74
  t29 := Tryz.underlying9
  a29 := Tryz.isAgg9
  z29 := Tryz.sizeOf9
  v29 := Tryz.zeroValue9
  t32 := Tryz.underlying93
  a32 := Tryz.isAgg93
  z32 := Tryz.sizeOf93
  v32 := Tryz.zeroValue93
  t35 := Tryz.underlying138
  a35 := Tryz.isAgg138
  z35 := Tryz.sizeOf138
  v35 := Tryz.zeroValue138
  t36 := Tryz.underlying139
  a36 := Tryz.isAgg139
  z36 := Tryz.sizeOf139
  v36 := Tryz.zeroValue139
  t41 := Tryz.underlying144
  a41 := Tryz.isAgg144
  z41 := Tryz.sizeOf144
  v41 := Tryz.zeroValue144
  t44 := Tryz.underlying50
  a44 := Tryz.isAgg50
  z44 := Tryz.sizeOf50
  v44 := Tryz.zeroValue50
  t46 := Tryz.underlying148
  a46 := Tryz.isAgg148
  z46 := Tryz.sizeOf148
  v46 := Tryz.zeroValue148
  t53 := Tryz.underlying149
  a53 := Tryz.isAgg149
  z53 := Tryz.sizeOf149
  v53 := Tryz.zeroValue149
  t57 := Tryz.underlying153
  a57 := Tryz.isAgg153
  z57 := Tryz.sizeOf153
  v57 := Tryz.zeroValue153
  t63 := Tryz.underlying155
  a63 := Tryz.isAgg155
  z63 := Tryz.sizeOf155
  v63 := Tryz.zeroValue155
  t64 := Tryz.underlying46
  a64 := Tryz.isAgg46
  z64 := Tryz.sizeOf46
  v64 := Tryz.zeroValue46 }

theorem sortsL (m : Nat) : AnyZ.SortsIn Tryz.prog sortedL_ren Fence.wide m :=
  ⟨fun blk off cap ss W hH hblk hsz => callsIn_wide.2 (AnyM.slices_Sort_string sortL blk off cap ss W hH hblk hsz),
   fun p cap W => callsIn_wide.2 (AnyM.slices_Sort_string_none sortL p cap W)⟩

theorem keys_in (mb : Option Nat) (W : World) : CallsIn Fence.wide 5 Tryz.prog 48 #[.map mb] W fun e w' => e = .returned (.func (.func 73) #[] #[.pointer (some ⟨W.heap.size, 0, none⟩)]) ∧ w' = W.alloc (.cells #[.map mb] 73) :=
  AnyZ.keys_in keysL Fence.wide 5 trivial rfl mb W

set_option maxHeartbeats 1000000 in
theorem sorted_in {H : Type} (b nn : Nat) (D0 : DataW H) (R : Value → Option (DataW H × List MemPlace)) (w : World) (hown : w.ownsMap Tryz.prog 9 R b nn D0) (hmax : Maps.size D0 ≤ maxLen) (hbytes : Maps.size D0 * 16 ≤ 140737488355328) :
    CallsIn Fence.wide 5 Tryz.prog 47 #[.func (.func 73) #[] #[.pointer (some ⟨w.heap.size, 0, none⟩)]] (w.alloc (.cells #[.map (some b)] 73)) fun e w' => ∃ (v : Value) (ss : List (List UInt8)), e = .returned v ∧ ss.Perm (strKeys D0) ∧
      w'.ownsRow (w.alloc (.cells #[.map (some b)] 73)).heap.size 9 1 v ss.length ((ss.mergeSort (fun x y => decide (x ≤ y))).map encStr) ∧ (v = .slice none 0 0 ↔ ss = []) ∧ Below (w.alloc (.cells #[.map (some b)] 73)).heap.size (w.alloc (.cells #[.map (some b)] 73)) w' := by
  have hbl := hown.lt
  have hseq : SeqGives Fence.wide 2 Tryz.prog 73 #[.pointer (some ⟨w.heap.size, 0, none⟩)] encStr (fun ss => ss.Perm (strKeys D0)) (Maps.size D0) (w.alloc (.cells #[.map (some b)] 73)) :=
    AnyZ.keys_gives (ρ := keysL_ren) { keysL with } Fence.wide _ trivial rfl (by omega) w.heap.size b nn D0 _ (by simp) (by simp) (by
      obtain ⟨es, clock, hb, Ft, hs, hD⟩ := hown
      exact ⟨es, clock, (Below.heap_alloc _ _ b hbl).trans hb, Ft, hs, hD⟩)
  exact AnyZ.sorted_in sortedL Fence.wide 5 trivial trivial trivial trivial rfl (by omega) (sortsL _) (enters_of Tryz.func72 (by kernel_rfl) rfl) 73 #[.pointer (some ⟨w.heap.size, 0, none⟩)] trivial (enters_of Tryz.func73 (by kernel_rfl) rfl) _ _ hmax hbytes _ hseq


theorem keys_call (mb : Option Nat) (W : World) : Calls Tryz.prog 48 #[.map mb] W fun e w' => e = .returned (.func (.func 73) #[] #[.pointer (some ⟨W.heap.size, 0, none⟩)]) ∧ w' = W.alloc (.cells #[.map mb] 73) := callsIn_wide.1 (keys_in mb W)
theorem sorted_call {H : Type} (b nn : Nat) (D0 : DataW H) (R : Value → Option (DataW H × List MemPlace)) (w : World) (hown : w.ownsMap Tryz.prog 9 R b nn D0) (hmax : Maps.size D0 ≤ maxLen) (hbytes : Maps.size D0 * 16 ≤ 140737488355328) :
    Calls Tryz.prog 47 #[.func (.func 73) #[] #[.pointer (some ⟨w.heap.size, 0, none⟩)]] (w.alloc (.cells #[.map (some b)] 73)) fun e w' => ∃ (v : Value) (ss : List (List UInt8)), e = .returned v ∧ ss.Perm (strKeys D0) ∧
      w'.ownsRow (w.alloc (.cells #[.map (some b)] 73)).heap.size 9 1 v ss.length ((ss.mergeSort (fun x y => decide (x ≤ y))).map encStr) ∧ (v = .slice none 0 0 ↔ ss = []) ∧ Below (w.alloc (.cells #[.map (some b)] 73)).heap.size (w.alloc (.cells #[.map (some b)] 73)) w' := callsIn_wide.1 (sorted_in b nn D0 R w hown hmax hbytes)
end Go.Proofs.YtjnfljipomjcjaaGreatDoor.itl

/- The program's Replay. -/
namespace Go.Proofs.YtjnfljipomjcjaaGreatDoor.rpi
open Go.ChangeShapes Go.WideShapes Go.ChangeAt Go.RowKit Go.Proofs.YtjnfljipomjcjaaGreatDoor.fl Go.Proofs.YtjnfljipomjcjaaGreatDoor.fo Go.Proofs.YtjnfljipomjcjaaGreatDoor.rn Go.Proofs.YtjnfljipomjcjaaGreatDoor.mrR Go.Proofs.YtjnfljipomjcjaaGreatDoor.rcp Go.Proofs.YtjnfljipomjcjaaGreatDoor.rcm Go.Proofs.YtjnfljipomjcjaaGreatDoor.rpp Go.Proofs.YtjnfljipomjcjaaGreatDoor.rps Go.Proofs.YtjnfljipomjcjaaGreatDoor.rcI
set_option linter.unusedVariables false

/-- what stands when some pairs are set in the map -/
structure Sm (W : World) (b : Nat) (R : List (List flP.Pr)) (i k : Nat) (wr : World) : Prop where
  bel : Below W.heap.size W wr
  mp : ∃ n, n ≤ (upto R i k).length ∧ wr.ownsMap Tryz.prog 9 rd b n (dm (ev (upto R i k)))

def cT (p : flP.Pr) : List Value := [.string p.k]
theorem cT_len (p : flP.Pr) : (cT p).length = 1 := rfl
theorem keys_cells : ∀ (L : List flP.Pr), (bts L).map encStr = L.flatMap cT
  | [] => rfl
  | p :: L => by
    have ih := keys_cells L
    unfold bts at ih ⊢
    rw [List.map_cons, List.map_cons, List.flatMap_cons, ih]
    rfl
/-- a look-up of a key that is there -/
theorem look {w : World} {b n : Nat} {L : List flP.Pr} {p : flP.Pr} (h : w.ownsMap Tryz.prog 9 rd b n (dm L)) (hA : mgp.Asc L) (hp : p ∈ L) (hk : p.k.size ≤ 100) :
    (Instr.lookup 73 (.map (some b)) (.string p.k) false).run Tryz.prog w = .ok (.agg #[.string p.k, .string p.v, .bool p.g]) w := by
  obtain ⟨v, ps, hrun, hv⟩ := h.lookup (Maps.string_keyed Tryz.underlying9) Tryz.underlying73 (Tryz.zeroValue61 w) (rd_mk _ _ _) (WideMaps.keyOf_string_mk (s := p.k) Tryz.underlying9 (by unfold maxLen; omega))
  obtain ⟨k, v', g, rfl, hz⟩ := rd_inv hv
  have h2 := (Prod.mk.inj hz).1
  have h3 : pd p = pd ⟨k, v', g⟩ := (dm_at hA hp _).symm.trans h2
  obtain rfl := pd_inj h3
  exact hrun
theorem own_map {w w' : World} {P : Program} {k : TypeId} {R : Value → Option (DataW Unit × List MemPlace)} {b n : Nat} {D : DataW Unit} (h : w.ownsMap P k R b n D) (hb : Below w.heap.size w w') : w'.ownsMap P k R b n D :=
  h.kept (row := none) ⟨hb.os, hb.tape, hb.output, hb.size, fun i hi _ => hb.block i hi⟩ (by simp)
theorem ev_ok {A : List flP.Pr} (h : ∀ e ∈ A, bo.okP e) : ∀ e ∈ ev A, bo.okP e := by
  have gen : ∀ (A L : List flP.Pr), (∀ e ∈ A, bo.okP e) → (∀ e ∈ L, bo.okP e) → ∀ e ∈ A.foldl ptp.setP L, bo.okP e := by
    intro A
    induction A with
    | nil => intro L _ hL; exact hL
    | cons a A ih =>
      intro L hA hL
      refine ih _ (fun e he => hA e (List.mem_cons_of_mem _ he)) (fun e he => ?_)
      rcases ptp.setP_mem he with h | h
      · exact hL e h
      · rw [h]; exact hA a (List.mem_cons_self ..)
  exact gen A [] h (fun e he => by cases he)
/-- what stands while what stays is laid -/
def S5 (W5 : World) (L : List flP.Pr) (k : Nat) (v : Value) (wx : World) : Prop := Below W5.heap.size W5 wx ∧ wx.ownsRow W5.heap.size 61 3 v ((L.take k).filter kp).length (((L.take k).filter kp).flatMap flP.c)
set_option maxRecDepth 100000 in
set_option maxHeartbeats 4000000 in
theorem impl_replay (s : ByteArray) (w : World) (hs : s.size ≤ 1048576) (hT : TB w) :
    Calls Tryz.prog 18 #[.string s] w fun e w' => ∃ v, e = .returned v ∧ w'.ownsRow w.heap.size 61 3 v (rep s).length ((rep s).flatMap flP.c) ∧ Below w.heap.size w w' := by
  have hrc := impl_recs s w hs hT
  obtain ⟨R, hR⟩ : ∃ R, (recs s).1 = R := ⟨_, rfl⟩
  obtain ⟨z, hz⟩ : ∃ z, (recs s).2 = z := ⟨_, rfl⟩
  have HRep : Hid (rep s = (ev R.flatten).filter kp) := by unfold Hid rep; rw [hR]; rfl
  have hfl : R.flatten.length ≤ 200000 ∧ R.length ≤ 25000 ∧ ∀ l ∈ R, ∀ e ∈ l, bo.okP e := by
    by_cases h : s.size ≤ 200000
    · obtain ⟨i, hi, _⟩ := left_ex s h
      rw [hR] at hi
      exact ⟨by have := hi.tot; have := hi.hi; omega, left_len h hi, hi.oks⟩
    · rw [recs_big (by omega)] at hR
      subst hR
      simp
  obtain ⟨hf1, hf2, hf3⟩ := hfl
  have HOK : Hid (∀ l ∈ R, ∀ e ∈ l, bo.okP e) := hf3
  rw [hR, hz] at hrc
  clear hR hz hf3
  go_enter Tryz.func18, Tryz.ntmps18
  go_wp2_with (go_at_call 6; fail)
  refine hrc.mono ?_
  rintro e W ⟨v1, rfl, rs, hm, hro⟩
  obtain ⟨la, lc, rfl, hvr, _⟩ := hro.vr
  have hBW := hro.bel
  have hrl : rs.length = R.length := by rw [← hm, List.length_map]
  have HVR : Hid (VR W W.heap.size la rs) := hvr
  have HM : Hid (rs.map (·.l) = R) := hm
  have hmm := @run_makeMap Tryz.prog
  have hkd : Maps.Keyed Tryz.prog 9 := Maps.string_keyed Tryz.underlying9
  have hal : Below W.heap.size W (W.alloc (.map #[] 0)) := (Below.refl _ _).alloc (Nat.le_refl _) _
  have HS0 : Hid (Sm W W.heap.size R 0 0 (W.alloc (.map #[] 0))) := ⟨hal, 0, Nat.zero_le _, by rw [upto_0]; exact World.ownsMap_made W Tryz.prog 9 rd⟩
  clear hrc hro hvr hm hT
  rw [hrl]
  go_wp2
  obtain ⟨W2, hW2⟩ : ∃ W2, W.alloc (.map #[] 0) = W2 := ⟨_, rfl⟩
  rw [hW2] at HS0 hal ⊢
  clear hW2 hmm
  go_loopw [22] (fun x wr => ∃ i : Nat, i ≤ R.length ∧ x = .int .i64 i ∧ Hid (Sm W W.heap.size R i 0 wr)) (fun x _ => R.length - (intOf x).toNat)
  case atStart => exact ⟨0, Nat.zero_le _, rfl, HS0⟩
  case round =>
    obtain ⟨i, hi, rfl, hst⟩ := hrel
    by_cases hil : i < R.length
    · have hir : i < rs.length := by omega
      have i2 : (i : Int) < (R.length : Int) := by omega
      have HG : Hid (rs[i]? = some rs[i]) := List.getElem?_eq_getElem hir
      have HRR : Hid (Row flP.c 3 W W.heap.size rs[i].a rs[i].l) := HVR.out.2 rs[i] (List.getElem_mem hir)
      have HRI : Hid (R[i]? = some rs[i].l) := by unfold Hid; rw [← HM.out, List.getElem?_map, List.getElem?_eq_getElem hir]; rfl
      obtain ⟨⟨ra, rc, rl⟩, he⟩ : ∃ e, rs[i] = e := ⟨_, rfl⟩
      rw [he] at HG HRR HRI
      obtain ⟨b, off, rfl, hlt, hc⟩ := HVR.out.1.resolve_left (by rintro rfl; simp at hir)
      have HOL : Hid (∀ e ∈ rl, bo.okP e) := HOK.out rl (List.mem_of_getElem? HRI.out)
      have c0 : wr.cell? ⟨b, off + i, none⟩ = some (.slice ra rl.length rc) := (hst.out.bel.cell (p := ⟨b, off + i, none⟩) hlt).trans (by have := hc i _ HG.out 0 _ rfl; simpa using this)
      have hrl60 : rl.length ≤ R.flatten.length := by
        have h2 := upto_le (R := R) i rl.length
        unfold upto at h2
        rw [List.getD_eq_getElem?_getD, HRI.out, Option.getD_some, List.take_length, List.length_append] at h2
        omega
      clear he hc HS0 hir
      go_wp2
      go_loopw [28] (fun x wr => ∃ k : Nat, k ≤ rl.length ∧ x = .int .i64 k ∧ Hid (Sm W W.heap.size R i k wr)) (fun x _ => rl.length - (intOf x).toNat)
      case atStart => exact ⟨0, Nat.zero_le _, rfl, hst⟩
      case round =>
        obtain ⟨k, hk, rfl, hs2⟩ := hrel
        clear hst c0
        by_cases hkl : k < rl.length
        · have i3 : (k : Int) < (rl.length : Int) := by omega
          have HE : Hid (rl[k]? = some rl[k]) := List.getElem?_eq_getElem hkl
          have hok := HOL.out rl[k] (List.getElem_mem hkl)
          obtain ⟨⟨pk, pv, pg⟩, hpe⟩ : ∃ e, rl[k] = e := ⟨_, rfl⟩
          rw [hpe] at HE hok
          have hpk : pk.size ≤ 100 := hok.2.1
          obtain ⟨qb, qo, rfl, hqlt, hqc⟩ := HRR.out.resolve_left (by rintro h0; rw [h0] at hkl; simp at hkl)
          have go : ∀ (o : Nat) (v : Value), W.cell? ⟨qb, o, none⟩ = some v → wr.cell? ⟨qb, o, none⟩ = some v := fun o v hv => (hs2.out.bel.cell (p := ⟨qb, o, none⟩) hqlt).trans hv
          have p0 := go _ _ (hqc k _ HE.out 0 _ rfl)
          have p1 := go _ _ (hqc k _ HE.out 1 _ rfl)
          have p2 := go _ _ (hqc k _ HE.out 2 _ rfl)
          rw [Nat.add_zero] at p0
          obtain ⟨n, hn, hown⟩ := hs2.out.mp
          have hnl : n < maxLen := by have := upto_le (R := R) i k; unfold maxLen; omega
          have hB := hs2.out.bel
          have hBs := hB.size
          have hownX := hown.alloc (.cells #[.string pk, .string pv, .bool pg] 61)
          have hBX : Below W.heap.size W (wr.alloc (.cells #[.string pk, .string pv, .bool pg] 61)) := hB.alloc hBs _
          have hkey : keyOf Tryz.prog 9 (.string pk) = some (kl pk) := WideMaps.keyOf_string_mk Tryz.underlying9 (by unfold maxLen; omega)
          obtain ⟨w1, hrun, hown1, hgr⟩ := hownX.update hkd Tryz.underlying73 hnl hkey (rd_mk pk pv pg)
          have HN : Hid (Sm W W.heap.size R i (k + 1) w1) := by
            refine ⟨hBX.grown hgr hBX.size (fun j hj => by have := Option.some.inj hj; omega), n + 1, ?_, ?_⟩
            · rw [upto_next HRI.out HE.out, List.length_append, List.length_singleton]; omega
            · rw [upto_next HRI.out HE.out, ev_app, ← dm_put (ev_asc _)]
              exact hown1
          clear hpe hqc go hs2 hown hownX hown1 hgr hB hBX hkey hok
          go_wp2
          go_roundw
          case rel => exact ⟨k + 1, by omega, by go_num, HN⟩
          case measure => simp [intOf]; omega
        · obtain rfl : k = rl.length := by omega
          have HN : Hid (Sm W W.heap.size R (i + 1) 0 wr) := by
            obtain ⟨h1, h2⟩ := hs2.out
            rw [upto_row HRI.out] at h2
            exact ⟨h1, h2⟩
          clear hs2
          go_wp2
          go_roundw
          case rel => exact ⟨i + 1, by omega, by go_num, HN⟩
          case measure => simp [intOf]; omega
    · obtain rfl : i = R.length := by omega
      obtain ⟨h1, n, hn, hown⟩ := hst.out
      rw [upto_all] at hn hown
      have hln : (ev R.flatten).length ≤ 200000 := by have := ev_len R.flatten; omega
      have hkc := itl.keys_call (some W.heap.size) wr
      have hsc := itl.sorted_call W.heap.size n (dm (ev R.flatten)) rd wr hown (by rw [dm_size]; unfold maxLen; omega) (by rw [dm_size]; omega)
      have HOWN : Hid (wr.ownsMap Tryz.prog 9 rd W.heap.size n (dm (ev R.flatten))) := hown
      have hb2 : Below w.heap.size w wr := hBW.trans (h1.mono hBW.size)
      have hal2 : Below wr.heap.size wr (wr.alloc (.cells #[.map (some W.heap.size)] 73)) := (Below.refl _ _).alloc (Nat.le_refl _) _
      clear hst HS0 hown
      go_wp2_with (go_at_call 48; fail)
      refine hkc.mono ?_
      rintro e w4 ⟨rfl, rfl⟩
      clear hkc
      go_wp2_with (go_at_call 47; fail)
      refine hsc.mono ?_
      rintro e w5 ⟨v5, ss, rfl, hp5, ho5, _, hb5⟩
      clear hsc
      rw [dm_keys] at hp5
      obtain ⟨L, hL⟩ : ∃ L, ev R.flatten = L := ⟨_, rfl⟩
      have HA : Hid (mgp.Asc L) := hL ▸ ev_asc R.flatten
      rw [sorted_keys (ev_asc R.flatten) hp5, hp5.length_eq, hL] at ho5
      rw [keys_cells, show (bts L).length = L.length by unfold bts; rw [List.length_map]] at ho5
      obtain ⟨ka, kc, rfl, hkr⟩ := own_row cT_len ho5
      have HKR : Hid (Row cT 1 w5 w5.heap.size ka L) := hkr
      have hb15 : Below wr.heap.size wr w5 := hal2.trans (hb5.mono hal2.size)
      have HM5 : Hid (w5.ownsMap Tryz.prog 9 rd W.heap.size n (dm L)) := by rw [← hL]; exact own_map HOWN.out hb15
      have HOE : Hid (∀ e ∈ L, bo.okP e) := by
        unfold Hid
        rw [← hL]
        exact ev_ok (fun e he => by obtain ⟨l, hl, hel⟩ := List.mem_flatten.1 he; exact HOK.out l hl e hel)
      rw [hL] at hln
      have hbw5 : Below w.heap.size w w5 := hb2.trans (hb15.mono hb2.size)
      have HS5 : Hid (S5 w5 L 0 (.slice none 0 0) w5) := ⟨Below.refl _ _, World.ownsRow_nil w5 w5.heap.size _ 3⟩
      have HRP : Hid (rep s = L.filter kp) := by unfold Hid; rw [HRep.out, hL]
      clear ho5 hkr hb15 hp5 hb5 hal2 HOWN hL HRep
      obtain ⟨i0, hif, hz0, hz1, hz2⟩ := sct.infoP
      go_wp2
      go_loopw [10, 42] (fun v x wr => ∃ k : Nat, k ≤ L.length ∧ x = .int .i64 k ∧ Hid (S5 w5 L k v wr)) (fun _ x _ => L.length - (intOf x).toNat)
      case atStart => exact ⟨0, Nat.zero_le _, rfl, HS5⟩
      case round =>
        obtain ⟨k, hk, rfl, hst⟩ := hrel
        clear HS5
        by_cases hkl : k < L.length
        · obtain ⟨s1, s2⟩ := hst.out
          have s6 := s1.size
          have i2 : (k : Int) < (L.length : Int) := by omega
          have HG : Hid (L[k]? = some L[k]) := List.getElem?_eq_getElem hkl
          have hlk := look (own_map HM5.out s1) HA.out (List.getElem_mem hkl) (HOE.out L[k] (List.getElem_mem hkl)).2.1
          obtain ⟨⟨pk, pv, pg⟩, he⟩ : ∃ e, L[k] = e := ⟨_, rfl⟩
          rw [he] at HG hlk
          obtain ⟨b, off, rfl, hlt, hc⟩ := HKR.out.resolve_left (by rintro rfl; simp at hkl)
          have c0 : wr.cell? ⟨b, off + k, none⟩ = some (.string pk) := (s1.cell (p := ⟨b, off + k, none⟩) hlt).trans (by have := hc k _ HG.out 0 _ rfl; simpa using this)
          have hlen : ((L.take k).filter kp).length ≤ 200000 := by have := List.length_filter_le kp (L.take k); rw [List.length_take] at this; omega
          have hal5 : Below wr.heap.size wr (wr.alloc (.cells #[.string pk, .string pv, .bool pg] 61)) := (Below.refl _ _).alloc (Nat.le_refl _) _
          have hsa : Below w5.heap.size w5 (wr.alloc (.cells #[.string pk, .string pv, .bool pg] 61)) := s1.trans (hal5.mono s6)
          have s2a := gbs.own_on s2 hal5
          clear he hc
          cases pg with
          | true =>
            have HN : Hid ((L.take (k + 1)).filter kp = (L.take k).filter kp) := nx_no HG.out rfl
            have hst2 : Hid (S5 w5 L (k + 1) u10 (wr.alloc (.cells #[.string pk, .string pv, .bool true] 61))) := by
              unfold Hid S5
              rw [HN.out]
              exact ⟨hsa, s2a⟩
            clear hst s1 s2 s2a hsa hal5
            go_wp2
            go_roundw
            case rel => exact ⟨k + 1, by omega, by go_num, hst2⟩
            case measure => simp [intOf]; omega
          | false =>
            have HN : Hid ((L.take (k + 1)).filter kp = (L.take k).filter kp ++ [⟨pk, pv, false⟩]) := nx_yes HG.out rfl
            obtain ⟨X, hX⟩ : ∃ X, wr.alloc (.cells #[.string pk, .string pv, .bool false] 61) = X := ⟨_, rfl⟩
            have hXs : X.heap.size = wr.heap.size + 1 := by rw [← hX]; simp
            rw [hX] at hsa s2a
            have hal6 : Below X.heap.size X (X.alloc (.cells #[.string pk, .string pv, .bool false] 61)) := (Below.refl _ _).alloc (Nat.le_refl _) _
            have hsb : Below w5.heap.size w5 (X.alloc (.cells #[.string pk, .string pv, .bool false] 61)) := hsa.trans (hal6.mono hsa.size)
            obtain ⟨v', Y4, hr, ho, hg, _, hat⟩ := run_append_own_at (P := Tryz.prog) (X.alloc (.cells #[.string pk, .string pv, .bool false] 61)) w5.heap.size 24 24 61 i0 (.agg #[.string ByteArray.empty, .string ByteArray.empty, .bool false]) 3 40 Tryz.underlying24 hif hz0 hz1 hz2 rfl (by decide) u10 _ _ (gbs.own_on s2a hal6) ⟨X.heap.size, 0, none⟩ 1 1 [.string pk, .string pv, .bool false] rfl (fun j u hu => by rw [sct.add0]; exact bcell (bnew X _ _) (by simpa using hu)) (by intro u hu; simp at hu; rcases hu with rfl | rfl | rfl <;> rfl) (by unfold maxLen; omega) (by omega) hsb.size
            have hst2 : Hid (S5 w5 L (k + 1) v' Y4) := by
              unfold Hid S5
              rw [HN.out, List.length_append, List.flatMap_append]
              exact ⟨hsb.grown hg hsb.size (fun b hb => (s2a.lt b hb).1), by simpa [flP.c] using ho⟩
            rw [hXs, ← hX] at hr
            clear ho hg hal5 hst hat s1 s2 s2a hsa hsb hal6 hX hXs
            go_wp2_with (at_builtin; refine cpr.wpList_append_run rfl _ _ _ _ rfl _ _ _ rfl rfl hr ?_)
            go_roundw
            case rel => exact ⟨k + 1, by omega, by go_num, hst2⟩
            case measure => simp [intOf]; omega
        · obtain rfl : k = L.length := by omega
          have HFN : Hid (∃ v, Ending.returned u10 = .returned v ∧ wr.ownsRow w.heap.size 61 3 v (rep s).length ((rep s).flatMap flP.c) ∧ Below w.heap.size w wr) := by
            unfold Hid
            have h2 := hst.out.2
            rw [List.take_length] at h2
            rw [HRP.out]
            exact ⟨u10, rfl, sct.own_low h2 hbw5.size, hbw5.trans (hst.out.1.mono hbw5.size)⟩
          clear hst
          go_wp2
          go_ret
          exact HFN.out
end Go.Proofs.YtjnfljipomjcjaaGreatDoor.rpi

/- Two pairs held beside each other as a whole: what == and != of the struct answer. -/
namespace Go.Proofs.YtjnfljipomjcjaaGreatDoor.peq
open Go.ChangeShapes Go.WideShapes Go.ChangeAt Go.RowKit Go.Proofs.YtjnfljipomjcjaaGreatDoor.fl
set_option linter.unusedVariables false

theorem fields : ∃ f0 f1 f2 : Field, Tryz.prog.fieldsOf 61 = #[f0, f1, f2] ∧ (f0.name ≠ "_" ∧ f0.type = 9 ∧ f0.offset = 0) ∧ (f1.name ≠ "_" ∧ f1.type = 9 ∧ f1.offset = 1) ∧ (f2.name ≠ "_" ∧ f2.type = 4 ∧ f2.offset = 2) := by
  refine ⟨_, _, _, (by kernel_rfl : Tryz.prog.fieldsOf 61 = #[(Tryz.prog.fieldsOf 61).getD 0 default, (Tryz.prog.fieldsOf 61).getD 1 default, (Tryz.prog.fieldsOf 61).getD 2 default]), ⟨by decide +kernel, by kernel_rfl, by kernel_rfl⟩, ⟨by decide +kernel, by kernel_rfl, by kernel_rfl⟩, ⟨by decide +kernel, by kernel_rfl, by kernel_rfl⟩⟩
theorem und : Tryz.prog.underlying 61 = some (.struct (Tryz.prog.fieldsOf 61)) := by kernel_rfl
theorem held : Tryz.prog.stoodInHeld 61 = false := by kernel_rfl
theorem guard : Tryz.prog.eqGuardType Tryz.prog.depth 61 = false := by kernel_rfl
theorem tl {x y : ByteArray} : x.toList = y.toList ↔ x = y := by
  constructor
  · intro h
    rw [Lib.toList_data, Lib.toList_data] at h
    exact ByteArray.ext (Array.toList_inj.1 h)
  · rintro rfl; rfl
/-- whether two pairs are one -/
def same (p q : flP.Pr) : Bool := decide (p.k = q.k) && (decide (p.v = q.v) && (p.g == q.g))
theorem same_iff {p q : flP.Pr} : same p q = true ↔ p = q := by
  obtain ⟨pk, pv, pg⟩ := p
  obtain ⟨qk, qv, qg⟩ := q
  simp [same]
theorem same_no {p q : flP.Pr} : same p q = false ↔ p ≠ q := by
  rw [← Bool.not_eq_true, same_iff]
theorem eq_in (p q : flP.Pr) (w : World) : (Op.equalIn 10000 61 (.agg #[.string p.k, .string p.v, .bool p.g]) (.agg #[.string q.k, .string q.v, .bool q.g])).run Tryz.prog w = .ok (same p q) w := by
  obtain ⟨f0, f1, f2, hf, ⟨a0, b0, c0⟩, ⟨a1, b1, c1⟩, ⟨a2, b2, c2⟩⟩ := fields
  rw [show (10000 : Nat) = 9999 + 1 from rfl, run_equalIn_agg w 9999 _ _ _ und held, hf]
  obtain ⟨pk, pv, pg⟩ := p
  obtain ⟨qk, qv, qg⟩ := q
  simp [Op.eqFields, a0, a1, a2, b0, b1, b2, c0, c1, c2, go_sem, part, Tryz.underlying9, Tryz.underlying4]
  simp only [tl]
  unfold same
  by_cases h1 : pk = qk
  · by_cases h2 : pv = qv
    · cases pg <;> cases qg <;> simp [h1, h2]
    · simp [h1, h2]
  · simp [h1]
theorem neq_run (pk pv qk qv : ByteArray) (pg qg : Bool) (w : World) : (binOp .neq 61 (.agg #[.string pk, .string pv, .bool pg]) (.agg #[.string qk, .string qv, .bool qg])).run Tryz.prog w = .ok (.bool (!same ⟨pk, pv, pg⟩ ⟨qk, qv, qg⟩)) w := by
  rw [run_neq_struct, eq_in ⟨pk, pv, pg⟩ ⟨qk, qv, qg⟩ w]
  rfl
theorem guard_run (x y : Operand) (xs ys : Array Value) (w : World) : (eqGuard .neq 61 x y (.agg xs) (.agg ys)).run Tryz.prog w = .ok () w := run_eqGuard_agg w .neq _ x y xs ys guard
end Go.Proofs.YtjnfljipomjcjaaGreatDoor.peq
