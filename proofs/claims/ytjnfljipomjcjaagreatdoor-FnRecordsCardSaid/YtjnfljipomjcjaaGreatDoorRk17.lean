/- FnRecords, walked: what comes on the way is as it is told, at every code. -/
import Derived.Test.YtjnfljipomjcjaaGreatDoorRk16
import Derived.Test.YtjnfljipomjcjaaGreatDoorRk03
import Derived.Deep.QuietTactic
import Derived.BigQuiet
import Derived.Test.YtjnfljipomjcjaaGreatDoorRk05
import Derived.Test.YtjnfljipomjcjaaGreatDoorRk06
import Derived.Test.YtjnfljipomjcjaaGreatDoorRk13
import Derived.Test.YtjnfljipomjcjaaGreatDoorRk15
import Derived.Lib.ConvBytes

/- Two lists of pairs held beside each other: the laws' samePairs. -/
namespace Go.Proofs.YtjnfljipomjcjaaGreatDoor.smp
open Go.ChangeShapes Go.WideShapes Go.ChangeAt Go.RowKit Go.Proofs.YtjnfljipomjcjaaGreatDoor.fl Go.Proofs.YtjnfljipomjcjaaGreatDoor.peq
set_option linter.unusedVariables false

noncomputable def sameL (l m : List flP.Pr) : Bool := @decide (l = m) (Classical.propDecidable _)
theorem sameL_iff {l m : List flP.Pr} : sameL l m = true ↔ l = m := by unfold sameL; exact @decide_eq_true_iff _ (Classical.propDecidable _)
theorem sameL_yes {l m : List flP.Pr} (h : l = m) : sameL l m = true := sameL_iff.2 h
theorem sameL_no {l m : List flP.Pr} (h : l ≠ m) : sameL l m = false := by
  cases hh : sameL l m with
  | false => rfl
  | true => exact absurd (sameL_iff.1 hh) h
theorem bdrewN {B : Nat} {a w : World} (h : Below B a w) (n : Nat) : Below B a (w.drewN n) := ⟨h.os, h.tape, h.output, h.size, h.block⟩
set_option maxRecDepth 100000 in
set_option maxHeartbeats 1000000 in
theorem same_pairs (l m : List flP.Pr) (a b : Option Addr) (ca cb : Nat) (w : World) (hl : l.length ≤ maxLen) (hm : m.length ≤ maxLen) (hA : Row flP.c 3 w w.heap.size a l) (hB : Row flP.c 3 w w.heap.size b m) :
    Calls Tryz.prog 15 #[.slice a l.length ca, .slice b m.length cb] w fun e w' => e = .returned (.bool (sameL l m)) ∧ Below w.heap.size w w' := by
  have hl' : l.length ≤ 9223372036854775807 := hl
  have hm' : m.length ≤ 9223372036854775807 := hm
  by_cases hne : l.length = m.length
  case neg =>
    have HN : Hid (sameL l m = false) := sameL_no (fun e => hne (by rw [e]))
    have n1 : ¬ ((l.length : Int) = (m.length : Int)) := by omega
    rw [HN.out]
    go_enter Tryz.func15, Tryz.ntmps15
    go_wp2
    go_ret
    exact ⟨rfl, Below.refl _ _⟩
  have HA : Hid (Row flP.c 3 w w.heap.size a l) := hA
  have HB : Hid (Row flP.c 3 w w.heap.size b m) := hB
  obtain ⟨n, hn⟩ : ∃ n, l.length = n := ⟨_, rfl⟩
  have hnm : m.length = n := by omega
  obtain ⟨sl, hsl⟩ : ∃ sl, sameL l m = sl := ⟨_, rfl⟩
  have HSL : Hid (sameL l m = sl) := hsl
  rw [hn, hnm, hsl]
  clear hA hB hsl
  go_enter Tryz.func15, Tryz.ntmps15
  go_wp2
  go_loopw [5] (fun x wr => ∃ k : Nat, k ≤ n ∧ x = .int .i64 k ∧ Hid (∀ i, i < k → l[i]? = m[i]?) ∧ Hid (Below w.heap.size w wr)) (fun x _ => n - (intOf x).toNat)
  case atStart => exact ⟨0, Nat.zero_le _, rfl, fun i h => by omega, Below.refl _ _⟩
  case round =>
    obtain ⟨k, hk, rfl, hall, hbel⟩ := hrel
    by_cases hkl : k < n
    · have i2 : (k : Int) < (n : Int) := by omega
      have h1 : k < l.length := by omega
      have h2 : k < m.length := by omega
      have HG : Hid (l[k]? = some l[k]) := List.getElem?_eq_getElem h1
      have HG2 : Hid (m[k]? = some m[k]) := List.getElem?_eq_getElem h2
      obtain ⟨⟨pk, pv, pg⟩, he⟩ : ∃ e, l[k] = e := ⟨_, rfl⟩
      obtain ⟨⟨qk, qv, qg⟩, he2⟩ : ∃ e, m[k] = e := ⟨_, rfl⟩
      rw [he] at HG
      rw [he2] at HG2
      obtain ⟨b1, o1, rfl, hlt1, hc1⟩ := HA.out.resolve_left (by rintro rfl; simp at h1)
      obtain ⟨b2, o2, rfl, hlt2, hc2⟩ := HB.out.resolve_left (by rintro rfl; simp at h2)
      have go1 : ∀ (o : Nat) (v : Value), w.cell? ⟨b1, o, none⟩ = some v → wr.cell? ⟨b1, o, none⟩ = some v := fun o v hv => (hbel.out.cell (p := ⟨b1, o, none⟩) hlt1).trans hv
      have go2 : ∀ (o : Nat) (v : Value), w.cell? ⟨b2, o, none⟩ = some v → wr.cell? ⟨b2, o, none⟩ = some v := fun o v hv => (hbel.out.cell (p := ⟨b2, o, none⟩) hlt2).trans hv
      have p0 := go1 _ _ (hc1 k _ HG.out 0 _ rfl)
      have p1 := go1 _ _ (hc1 k _ HG.out 1 _ rfl)
      have p2 := go1 _ _ (hc1 k _ HG.out 2 _ rfl)
      have q0 := go2 _ _ (hc2 k _ HG2.out 0 _ rfl)
      have q1 := go2 _ _ (hc2 k _ HG2.out 1 _ rfl)
      have q2 := go2 _ _ (hc2 k _ HG2.out 2 _ rfl)
      rw [Nat.add_zero] at p0 q0
      have hgd := @guard_run
      have hrn := neq_run pk pv qk qv pg qg
      have HSM : Hid (same ⟨pk, pv, pg⟩ ⟨qk, qv, qg⟩ = true → l[k]? = m[k]?) := fun h => by rw [HG.out, HG2.out, same_iff.1 h]
      have HSN : Hid (same ⟨pk, pv, pg⟩ ⟨qk, qv, qg⟩ = false → sameL l m = false) := fun h => sameL_no (fun e => same_no.1 h (by have h3 := HG.out; rw [e, HG2.out] at h3; exact (Option.some.inj h3).symm))
      generalize same ⟨pk, pv, pg⟩ ⟨qk, qv, qg⟩ = sm at hrn HSM HSN
      clear he he2 hc1 hc2 go1 go2
      cases sm with
      | false =>
        obtain rfl : sl = false := HSL.out.symm.trans (HSN.out rfl)
        go_wp2
        go_quiet (fail)
        have hbN := bdrewN hbel.out nq
        go_wp2
        go_ret
        exact ⟨rfl, hbN⟩
      | true =>
        have HN : Hid (∀ i, i < k + 1 → l[i]? = m[i]?) := fun i hi => by
          rcases Nat.lt_or_ge i k with h | h
          · exact hall.out i h
          · obtain rfl : i = k := by omega
            exact HSM.out rfl
        go_wp2
        go_quiet (fail)
        have HBN : Hid (Below w.heap.size w (wr.drewN nq)) := bdrewN hbel.out nq
        go_wp2
        go_roundw
        case rel => exact ⟨k + 1, by omega, by go_num, HN, HBN⟩
        case measure => simp [intOf]; omega
    · obtain rfl : k = n := by omega
      have HY : Hid (sameL l m = true) := sameL_yes (List.ext_getElem? fun i => by
        rcases Nat.lt_or_ge i k with h | h
        · exact hall.out i h
        · rw [List.getElem?_eq_none (by omega), List.getElem?_eq_none (by omega)])
      obtain rfl : sl = true := HSL.out.symm.trans HY.out
      go_wp2
      go_ret
      exact ⟨rfl, hbel.out⟩
end Go.Proofs.YtjnfljipomjcjaaGreatDoor.smp

/- FnRecords: what its walk leans on: a byte changed in the last record, and what stands on the way. -/
namespace Go.Proofs.YtjnfljipomjcjaaGreatDoor.rto
open Go.ChangeShapes Go.WideShapes Go.ChangeAt Go.RowKit Go.Proofs.YtjnfljipomjcjaaGreatDoor.fl Go.Proofs.YtjnfljipomjcjaaGreatDoor.rn
set_option linter.unusedVariables false

/-- nothing that was there when the law was entered is turned -/
def T (w W : World) : Prop := Below w.heap.size w W
theorem T.refl (w : World) : T w w := Below.refl _ _
theorem T.next {w W W' : World} (h : T w W) (h2 : Below W.heap.size W W') : T w W' := Below.trans h (h2.mono (Below.size h))
theorem T.drew {w W : World} (h : T w W) : T w W.drew := Below.drew h
theorem Code.top {w w' : World} {a : Option Addr} {len : Nat} (h : dw.Code w w.heap.size a len) (hb : Below w.heap.size w w') : dw.Code w' w'.heap.size a len := (h.below hb (Nat.le_refl _)).mono hb.size

theorem law_at {w : World} {a : Option Addr} {len cap : Nat} (i : Nat) (hlen : len ≤ 1048576) (hi : i ≤ 100) (hc : dw.Code w w.heap.size a len) :
    ∃ n : Nat, n < 256 ∧ ∀ W : World, T w W → Calls Tryz.prog 21 #[.slice a len cap, .int .i64 i] W fun e w' => e = .returned (.int .i64 n) ∧ W = w' := by
  by_cases hil : i < len
  · rcases hc with h0 | ⟨b, off, rfl, hb, hcells⟩
    · omega
    obtain ⟨v, hv, hcell0⟩ := hcells i hil
    clear hcells
    refine ⟨v, hv, fun W hT => ?_⟩
    have hcell := (Below.cell hT (p := ⟨b, off + i, none⟩) hb).trans hcell0
    clear hcell0
    go_enter Tryz.func21, Tryz.ntmps21
    go_wp2
    go_ret
    exact ⟨rfl, rfl⟩
  · clear hc
    refine ⟨(i * 7 + len) % 256, Nat.mod_lt _ (by decide), fun W _ => ?_⟩
    go_enter Tryz.func21, Tryz.ntmps21
    go_wp2
    go_ret
    exact ⟨by simp, rfl⟩
theorem not_empty {s : ByteArray} (h : 1 ≤ s.size) : s.toList.isEmpty = false ∧ (s.toList = []) = False := by
  have hl : s.toList.length = s.size := by rw [Lib.toList_data]; simp
  have hne : s.toList ≠ [] := fun e => by rw [e] at hl; simp at hl; omega
  exact ⟨by cases he : s.toList with | nil => exact absurd he hne | cons a b => rfl, by simpa using hne⟩
theorem empty_of {s : ByteArray} (h : s.size = 0) : s = ⟨#[]⟩ := by
  apply ByteArray.ext
  apply Array.toList_inj.1
  have h0 : s.data.toList.length = 0 := by simpa using h
  rw [List.length_eq_zero_iff.1 h0]

/-- the bytes of a text, laid in new memory -/
theorem conv {w W : World} {d : ByteArray} (hT : T w W) : ∃ (W2 : World) (C2 g : Nat), (convert 9 22 (.string d)).run Tryz.prog W = .ok (.slice (some ⟨g, 0, none⟩) d.size C2) W2 ∧ w.heap.size ≤ g ∧
    (∀ j, j < d.size → W2.cell? ⟨g, j, none⟩ = some (.int .u8 (cs.bt d j : Nat))) ∧ (∀ j, j < d.size → W2.frozen? ⟨g, j, none⟩ = false) ∧ T w W2 ∧ g < W2.heap.size := by
  have h := Lib.run_convert_string_bytes (P := Tryz.prog) W 9 22 5 d Tryz.underlying9 Tryz.underlying22 Tryz.underlying5
  have hnew := Lib.bytesWorld_at_new W 5 d
  have hsz := Lib.bytesWorld_size W 5 d
  have hds : d.size ≤ (Lib.bytesCells W 5 d).size := by simp [Lib.bytesCells]
  refine ⟨_, _, _, h, hT.size, fun j hj => ?_, fun j hj => ?_, ?_, by omega⟩
  · rw [Lib.bytesWorld_cell W 5 d j hj]
    have h1 := Lib.data_getElem? d j hj
    rw [List.getD, h1, Option.getD_some, cs.bt_eq d j hj]
  · simp only [World.frozen?, hnew]
    simp
    omega
  · refine hT.next ⟨rfl, rfl, rfl, by omega, fun k hk => Lib.bytesWorld_at_old W 5 d k hk⟩

theorem flip {b n : Nat} (hb : b < 256) (hn : n < 256) : ∃ y : Nat, y < 256 ∧ b ≠ y ∧ bits BinOp.xor IntKind.u8 (b : Int) (IntKind.u8.wrap (IntKind.i64.wrap (1 + (n : Int).tmod 255))) = (y : Int) := by
  have e : IntKind.u8.wrap (IntKind.i64.wrap (1 + (n : Int).tmod 255)) = ((1 + n % 255 : Nat) : Int) := by
    rw [Int.tmod_eq_emod_of_nonneg (by omega), IntKind.wrap_i64, IntKind.wrap_u8]
    omega
  rw [e, u8_xor_nat b (1 + n % 255) hb (by omega)]
  refine ⟨b ^^^ (1 + n % 255), Nat.xor_lt_two_pow (n := 8) hb (by omega), fun h => ?_, rfl⟩
  have h2 : b ^^^ 0 = b ^^^ (1 + n % 255) := by rw [Nat.xor_zero]; exact h
  have := sp.xor_cancel_left h2
  omega
def nums (d : ByteArray) (j y : Nat) : List Int := (List.range d.size).map fun i => if i = j then (y : Int) else (cs.bt d i : Int)
theorem nums_at (d : ByteArray) (j y i : Nat) (h : i < d.size) : (nums d j y).getD i 0 = if i = j then (y : Int) else (cs.bt d i : Int) := by
  simp [nums, List.getD, h]
theorem nums_bt (d : ByteArray) (j y i : Nat) (hy : y < 256) : cs.bt (strOfNums (nums d j y)) i = if i < d.size then (if i = j then y else cs.bt d i) else 0 := by
  have hs : (strOfNums (nums d j y)).size = d.size := by rw [strOfNums_size]; simp [nums]
  by_cases hi : i < d.size
  · have hi' : i < (strOfNums (nums d j y)).size := by omega
    have h1 := Lib.data_getElem? (strOfNums (nums d j y)) i hi'
    rw [strOfNums_data, List.getElem?_map] at h1
    have hb := cs.bt_lt d i
    have h2 : (nums d j y)[i]? = some (if i = j then (y : Int) else (cs.bt d i : Int)) := by simp [nums, hi]
    rw [h2, Option.map_some] at h1
    rw [← cs.bt_eq _ i hi', ← Option.some.inj h1, if_pos hi]
    by_cases hij : i = j
    · simp [hij]
      omega
    · simp [hij]
      omega
  · simp [cs.bt, hs, hi]
theorem nums_size (d : ByteArray) (j y : Nat) : (strOfNums (nums d j y)).size = d.size := by rw [strOfNums_size]; simp [nums]
theorem bt_ext {a b : ByteArray} (hs : a.size = b.size) (h : ∀ i, i < a.size → cs.bt a i = cs.bt b i) : a = b := by
  apply ByteArray.ext
  apply Array.ext (by simpa using hs)
  intro i h1 h2
  have h3 := h i (by simpa using h1)
  have e1 := cs.bt_eq a i (by simpa using h1)
  have e2 := cs.bt_eq b i (by simpa using h2)
  have d1 := Lib.data_getElem? a i (by simpa using h1)
  have d2 := Lib.data_getElem? b i (by simpa using h2)
  rw [Array.getElem?_toList, Array.getElem?_eq_getElem h1] at d1
  rw [Array.getElem?_toList, Array.getElem?_eq_getElem h2] at d2
  rw [Option.some.inj d1, Option.some.inj d2]
  apply UInt8.toNat_inj.1
  omega
theorem bt_app (P S : ByteArray) (i : Nat) : cs.bt (P ++ S) i = if i < P.size then cs.bt P i else cs.bt S (i - P.size) := by
  unfold cs.bt
  by_cases h : i < P.size
  · have h2 : i < (P ++ S).size := by rw [ByteArray.size_append]; omega
    rw [dif_pos h2, if_pos h, dif_pos h]
    congr 1
    exact ByteArray.getElem_append_left h
  · rw [if_neg h]
    by_cases h3 : i - P.size < S.size
    · have h2 : i < (P ++ S).size := by rw [ByteArray.size_append]; omega
      rw [dif_pos h2, dif_pos h3]
      congr 1
      exact ByteArray.getElem_append_right (by omega)
    · have h2 : ¬ i < (P ++ S).size := by rw [ByteArray.size_append]; omega
      rw [dif_neg h2, dif_neg h3]
theorem nums_app (P S : ByteArray) (j y : Nat) (hy : y < 256) (hj : j < S.size) : strOfNums (nums (P ++ S) (P.size + j) y) = P ++ strOfNums (nums S j y) := by
  refine bt_ext (by rw [nums_size, ByteArray.size_append, ByteArray.size_append, nums_size]) (fun i hi => ?_)
  rw [nums_size] at hi
  rw [nums_bt _ _ _ _ hy, if_pos hi, bt_app, bt_app, nums_bt _ _ _ _ hy]
  rw [ByteArray.size_append] at hi
  by_cases h : i < P.size
  · rw [if_neg (by omega), if_pos h, if_pos h]
  · have h3 : i - P.size < S.size := by omega
    simp only [if_neg h, if_pos h3]
    by_cases h2 : i = P.size + j
    · rw [if_pos h2, if_pos (by omega)]
    · rw [if_neg h2, if_neg (by omega)]
/-- the last record's body spoilt at a byte, read again -/
theorem spoilt {L : List (List flP.Pr)} {b : List flP.Pr} {j y : Nat} (hr : ∀ x ∈ L, rro.Rok x) (hb : rro.Rok b) (hs : (rro.cat L ++ rcd.out b).size ≤ 200000) (hj : j < (pb.out b).size) (hy : y < 256) (hne : cs.bt (pb.out b) j ≠ y) :
    rcp.recs (strOfNums (nums (rro.cat L ++ rcd.out b) ((rro.cat L ++ rcd.out b).size - (pb.out b).size + j) y)) = (L, (((rro.cat L).size : Nat) : Int)) ∧ cs.bt (rro.cat L ++ rcd.out b) ((rro.cat L ++ rcd.out b).size - (pb.out b).size + j) = cs.bt (pb.out b) j := by
  obtain ⟨_, h2, h3, h4⟩ := rro.rok_form hb
  have hl := (sp.long_out h2).2.1
  have e : rro.cat L ++ rcd.out b = (rro.cat L ++ pi.text (cs.sum (pb.out b) : Nat) 4 ++ pi.text ((pb.out b).size : Int) 4) ++ pb.out b := by
    rw [h3]
    unfold rro.R
    rw [hl]
    simp only [rro.assoc]
  have es : (rro.cat L ++ rcd.out b).size - (pb.out b).size = (rro.cat L ++ pi.text (cs.sum (pb.out b) : Nat) 4 ++ pi.text ((pb.out b).size : Int) 4).size := by
    rw [e, ByteArray.size_append]
    omega
  have hz := nums_size (pb.out b) j y
  refine ⟨?_, ?_⟩
  · rw [es, e, nums_app _ _ _ _ hy hj]
    have e2 : (rro.cat L ++ pi.text (cs.sum (pb.out b) : Nat) 4 ++ pi.text ((pb.out b).size : Int) 4) ++ strOfNums (nums (pb.out b) j y) = rro.cat L ++ rro.R (cs.sum (pb.out b)) (strOfNums (nums (pb.out b) j y)) := by
      unfold rro.R
      rw [(sp.long_out (a := strOfNums (nums (pb.out b) j y)) (by omega)).2.1, hz]
      simp only [rro.assoc]
    rw [e2]
    refine rro.recs_spoilt (j := j) hr hb hs hz (by omega) (fun i hi => ?_) ?_
    · rw [nums_bt _ _ _ _ hy]
      by_cases h : i < (pb.out b).size
      · rw [if_pos h, if_neg hi]
      · rw [if_neg h]
        unfold cs.bt
        rw [dif_neg h]
    · rw [nums_bt _ _ _ _ hy, if_pos hj, if_pos rfl]
      exact fun e => hne e.symm
  · rw [es, e, bt_app, if_neg (by omega)]
    congr 1
    omega
/-- the bytes turned at one place, told as a text -/
theorem told {w W2 : World} {d : ByteArray} {g C2 j y : Nat} (hT2 : T w W2) (hg : w.heap.size ≤ g)
    (hcells : ∀ j, j < d.size → W2.cell? ⟨g, j, none⟩ = some (.int .u8 (cs.bt d j : Nat))) (hj : j < d.size) :
    (convert 22 9 (.slice (some ⟨g, 0, none⟩) d.size C2)).run Tryz.prog (W2.setCell ⟨g, j, none⟩ (.int .u8 (y : Int))).drew = .ok (.string (strOfNums (nums d j y))) (W2.setCell ⟨g, j, none⟩ (.int .u8 (y : Int))).drew ∧ T w (W2.setCell ⟨g, j, none⟩ (.int .u8 (y : Int))).drew := by
  refine ⟨run_convert_bytes_arg (P := Tryz.prog) _ 22 5 Tryz.underlying22 Tryz.underlying5 g 0 d.size C2 (nums d j y) (by simp [nums]) (fun i hi => ?_) 9 Tryz.underlying9, (Below.setCell (p := ⟨g, j, none⟩) hT2 hg _).drew⟩
  rw [nums_at d j y i hi, Nat.zero_add]
  by_cases hij : i = j
  · subst hij
    rw [if_pos rfl]
    exact World.cell?_setCell_same' _ _ _ (by rw [hcells i hi]; rfl)
  · rw [if_neg hij, ← hcells i hi]
    exact World.cell?_setCell_other _ _ _ _ (fun e => hij (by injection e with _ e2; exact e2.symm))
theorem len_of {w : World} {B n : Nat} {U : TypeId} {s : Nat} {v : Value} {xs : List Value} (h : w.ownsRow B U s v n xs) : n ≤ maxLen := by
  obtain ⟨_, ⟨_, h0⟩ | ⟨g, cap, cur, _, _, _, h4, h5, _⟩⟩ := h
  · omega
  · omega
/-- what stands on the way: the batch that was drawn, what both read of the log, the tables, the code -/
structure Hd (w1 w2 W : World) (a0 : Option Addr) (len0 : Nat) (ya : Option Addr) (l : List flP.Pr) (v2 v3 : Value) (r2 r3 : List Rn) : Prop where
  bel : Below w1.heap.size w1 W
  row : Row flP.c 3 W W.heap.size ya l
  ro2 : rcm.RO w1 W v2 r2
  ro3 : rcm.RO w2 W v3 r3
  tb : rcI.TB W
  code : dw.Code W W.heap.size a0 len0
theorem Hd.on {w1 w2 W W' : World} {a0 : Option Addr} {len0 : Nat} {ya : Option Addr} {l : List flP.Pr} {v2 v3 : Value} {r2 r3 : List Rn} (h : Hd w1 w2 W a0 len0 ya l v2 v3 r2 r3) (hb : Below W.heap.size W W') : Hd w1 w2 W' a0 len0 ya l v2 v3 r2 r3 :=
  ⟨h.bel.trans (hb.mono h.bel.size), h.row.inn hb, h.ro2.on hb, h.ro3.on hb, h.tb.on hb, (h.code.below hb (Nat.le_refl _)).mono hb.size⟩
end Go.Proofs.YtjnfljipomjcjaaGreatDoor.rto

/- FnRecords, walked: what comes on the way is as it is told, at every code. -/
namespace Go.Proofs.YtjnfljipomjcjaaGreatDoor.rwk
open Go.ChangeShapes Go.WideShapes Go.ChangeAt Go.RowKit Go.Proofs.YtjnfljipomjcjaaGreatDoor.fl Go.Proofs.YtjnfljipomjcjaaGreatDoor.rn Go.Proofs.YtjnfljipomjcjaaGreatDoor.rto
set_option linter.unusedVariables false

set_option maxRecDepth 100000 in
set_option maxHeartbeats 60000000 in
theorem walk (a0 : Option Addr) (len0 cap0 : Nat) (w : World) (hcode : dw.Code w w.heap.size a0 len0) (htab : rcI.TB w) :
    Calls Tryz.prog 3 #[.slice a0 len0 cap0] w fun e w' => e = .returned (.bool true) ∧ Below w.heap.size w w' := by
  by_cases hbig : (1048576 : Int) < len0
  · clear htab hcode
    go_enter Tryz.func3, Tryz.ntmps3
    go_wp2
    go_ret
    exact ⟨rfl, Below.refl _ _⟩
  have hlen : len0 ≤ 1048576 := by omega
  have h1 := dlo.draw_Append a0 len0 cap0 w hlen hcode
  have HL : Hid (rcI.TB w) := htab
  have HC : Hid (dw.Code w w.heap.size a0 len0) := hcode
  clear htab hcode
  go_enter Tryz.func3, Tryz.ntmps3
  go_wp2_with (first | (go_at_call 4; go_in) | (go_at_call 5; fail))
  refine h1.mono ?_
  rintro e w1 ⟨⟨log, l, v, hlog, hl, hsm, rfl, hown⟩, hb1⟩
  obtain ⟨ya, yc, rfl, hrow⟩ := own_row flP.c_len hown
  have HLL : Hid ((rcp.recs log).1.length ≤ 25000) := by obtain ⟨i, h9, _⟩ := rcp.left_ex log (by omega); exact rcp.left_len (by omega) h9
  have HSM : Hid (∀ e ∈ l, dba.Sml e) := hsm
  have HFT : Hid (bs.Fit l) := dlo.fit_of hsm hl
  have HB1 : Hid (Below w.heap.size w w1) := hb1
  have HR1 : Hid (Row flP.c 3 w1 w1.heap.size ya l) := hrow
  have HT1 : Hid (rcI.TB w1) := HL.out.on hb1
  have HC1 : Hid (dw.Code w1 w1.heap.size a0 len0) := (HC.out.below hb1 (Nat.le_refl _)).mono hb1.size
  have HFORM : Hid ((∀ b ∈ (rcp.recs log).1, rro.Rok b) ∧ (rcp.recs log).2 = ((rro.cat (rcp.recs log).1).size : Nat) ∧ log.extract 0 (rro.cat (rcp.recs log).1).size = rro.cat (rcp.recs log).1 ∧ (rro.cat (rcp.recs log).1).size ≤ log.size) := rro.recs_form (by omega)
  clear h1 hown hrow hsm hb1 HL HC
  have h2 := rcI.impl_recs log w1 (by omega) HT1.out
  have h3' := fun W => rcS.spec_recs log W (by omega)
  obtain ⟨L, hL⟩ : ∃ L, (rcp.recs log).1 = L := ⟨_, rfl⟩
  obtain ⟨en, hen⟩ : ∃ en, (rcp.recs log).2 = en := ⟨_, rfl⟩
  have HREC : Hid (rcp.recs log = (L, en)) := by unfold Hid; rw [← hL, ← hen]
  rw [hL, hen] at HFORM
  rw [hL] at HLL
  simp only [hL, hen] at h2 h3'
  clear hL hen
  go_wp2_with (go_at_call 6; fail)
  refine h2.mono ?_
  rintro e w2 ⟨v2, rfl, r2, hr2, hro2⟩
  have hb2 := hro2.bel
  have h3 := h3' w2
  clear h2 h3'
  go_wp2_with (go_at_call 7; fail)
  refine h3.mono ?_
  rintro e w3 ⟨v3, rfl, r3, hr3, hro3⟩
  have hb3 := hro3.bel
  have HM2 : Hid (r2.map (·.l) = L) := hr2
  have HM3 : Hid (r3.map (·.l) = L) := hr3
  have hB3 : Below w1.heap.size w1 w3 := hb2.trans (hb3.mono hb2.size)
  have H3 : Hid (Hd w1 w2 w3 a0 len0 ya l v2 v3 r2 r3) := ⟨hB3, HR1.out.inn hB3, hro2.on hb3, hro3, HT1.out.on hB3, (HC1.out.below hB3 (Nat.le_refl _)).mono hB3.size⟩
  clear h3 hr2 hr3 hro2 hro3 hb2 hb3 hB3 HR1 HT1 HC1
  obtain ⟨S, hS⟩ : ∃ S, pb.out l = S := ⟨_, rfl⟩
  obtain ⟨R, hR⟩ : ∃ R, rcd.out l = R := ⟨_, rfl⟩
  have HS : Hid (pb.out l = S) := hS
  have HRr : Hid (rcd.out l = R) := hR
  have hSs : S.size ≤ 7460 := by rw [← hS]; exact dlo.out_le HSM.out hl
  have hRs : R.size ≤ 7480 := by rw [← hR]; exact dlo.rec_le HSM.out hl
  clear hS hR
  have h4 := pbi.impl_put l ya yc w3 HFT.out H3.out.row
  rw [HS.out] at h4
  go_wp2_with (go_at_call 8; fail)
  refine h4.mono ?_
  rintro e w4 ⟨rfl, hb4⟩
  have H4 := H3.out.on hb4
  have h5 := rcd.impl_record l ya yc w4 H4.tb.tab HFT.out H4.row
  rw [HRr.out] at h5
  clear h4 H3 hb4
  go_wp2_with (go_at_call 9; fail)
  refine h5.mono ?_
  rintro e w5 ⟨rfl, hb5⟩
  have H5 := H4.on hb5
  have h6 := dlo.draw_GetBatch a0 len0 cap0 w5 hlen H5.code
  clear h5 H4 hb5
  go_wp2_with (go_at_call 10; fail)
  refine h6.mono ?_
  rintro e w6 ⟨⟨u, hu, rfl⟩, hb6⟩
  have H6 := H5.on hb6
  have h7 := gim.impl_got u w6 (by omega) H6.tb.et
  clear h6 H5 hb6
  obtain ⟨X, hX⟩ : ∃ X, gbp.gotL u = X := ⟨_, rfl⟩
  obtain ⟨ok, hok⟩ : ∃ ok, gbp.gotB u = ok := ⟨_, rfl⟩
  have HXO : Hid (gbp.gotL u = X ∧ gbp.gotB u = ok) := ⟨hX, hok⟩
  rw [hX, hok] at h7
  clear hX hok
  go_wp2_with (go_at_call 11; fail)
  refine h7.mono ?_
  rintro e w7 ⟨vx, rfl, hox, hb7⟩
  have H7 := H6.on hb7
  obtain ⟨xa, xc, rfl, hxr⟩ := own_row flP.c_len hox
  have h8 := gbs.spec_got u w7 (by omega)
  rw [HXO.out.1, HXO.out.2] at h8
  clear h7 H6 hb7 hox
  go_wp2_with (go_at_call 12; fail)
  refine h8.mono ?_
  rintro e w8 ⟨vy, rfl, hoy, hb8⟩
  have H8 : Hid (Hd w1 w2 w8 a0 len0 ya l v2 v3 r2 r3) := H7.on hb8
  obtain ⟨xb, xd, rfl, hyr⟩ := own_row flP.c_len hoy
  have HXR : Hid (Row flP.c 3 w8 w8.heap.size xa X ∧ Row flP.c 3 w8 w8.heap.size xb X) := ⟨hxr.inn hb8, hyr⟩
  clear h8 H7 hb8 hoy hxr hyr
  have hl2 : r2.length = L.length := by rw [← HM2.out, List.length_map]
  have hl3 : r3.length = L.length := by rw [← HM3.out, List.length_map]
  obtain ⟨qa, qc, rfl, _⟩ := own_row cR_len H8.out.ro2.row
  obtain ⟨qb, qd, rfl, _⟩ := own_row cR_len H8.out.ro3.row
  rw [hl2, hl3]
  have h9 := pbs.spec_put l ya yc w8 HFT.out H8.out.row
  rw [HS.out] at h9
  go_wp2_with (go_at_call 13; fail)
  refine h9.mono ?_
  rintro e w9 ⟨rfl, hb9⟩
  have H9 := H8.out.on hb9
  have HX9 := And.intro (HXR.out.1.inn hb9) (HXR.out.2.inn hb9)
  have h10 := rcd.spec_record l ya yc w9 HFT.out H9.row
  rw [HRr.out] at h10
  clear h9 H8 hb9 HXR
  go_wp2_with (go_at_call 14; fail)
  refine h10.mono ?_
  rintro e w10 ⟨rfl, hb10⟩
  have H10 := H9.on hb10
  have HX10 := And.intro (HX9.1.inn hb10) (HX9.2.inn hb10)
  have hXl : X.length ≤ 60 := by rw [← HXO.out.1]; exact rcp.gotL_len u
  have h11 := smp.same_pairs X X xa xb xc xd w10 (by unfold maxLen; omega) (by unfold maxLen; omega) HX10.1 HX10.2
  rw [smp.sameL_yes rfl] at h11
  clear h10 H9 hb10 HX9
  have HOKF : Hid (ok = true → pb.out X = u ∧ bs.Fit X) := fun h => by
    have h2 := rro.gotB_back (s := u) (by rw [HXO.out.2]; exact h)
    rw [HXO.out.1] at h2
    refine ⟨h2.2.1, by omega, fun e he => ?_⟩
    have h3 := rcp.gotL_ok u e (by rw [HXO.out.1]; exact he)
    obtain ⟨_, k1, k2, _⟩ := h3
    omega
  obtain ⟨bo1, hbo⟩ : ∃ b1, bo.okb l = b1 := ⟨_, rfl⟩
  have HBO : Hid (bo.okb l = bo1) := hbo
  clear hbo
  cases ok
  case' false =>
    go_wp2_with (go_at_call 15; fail)
    refine h11.mono ?_
    rintro e w12 ⟨rfl, hb11⟩
    have H12 : Hid (Hd w1 w2 w12 a0 len0 ya l (.slice qa r2.length qc) (.slice qb r3.length qd) r2 r3) := H10.on hb11
    clear h11 H10 hb11 HX10 HOKF
  case' true =>
    go_wp2_with (go_at_call 15; fail)
    refine h11.mono ?_
    rintro e w11 ⟨rfl, hb11⟩
    have H11 := H10.on hb11
    have h12 := pbi.impl_put X xa xc w11 (HOKF.out (by simp)).2 (HX10.1.inn hb11)
    rw [(HOKF.out (by simp)).1] at h12
    clear h11 H10 hb11 HX10 HOKF
    go_wp2_with (go_at_call 8; fail)
    refine h12.mono ?_
    rintro e w12 ⟨rfl, hb12⟩
    have H12 : Hid (Hd w1 w2 w12 a0 len0 ya l (.slice qa r2.length qc) (.slice qb r3.length qd) r2 r3) := H11.on hb12
    clear h12 H11 hb12
  all_goals
    have h13 := bo.impl_okb l ya yc w12 HFT.out H12.out.row
    rw [HBO.out] at h13
    go_wp2_with (go_at_call 16; fail)
    refine h13.mono ?_
    rintro e w13 ⟨rfl, hb13⟩
    have H13 := H12.out.on hb13
    have h14 := bo.spec_okb l ya yc w13 HFT.out H13.row
    rw [HBO.out] at h14
    clear h13 H12 hb13
    go_wp2_with (go_at_call 17; fail)
    refine h14.mono ?_
    rintro e w14 ⟨rfl, hb14⟩
    have H14 := H13.on hb14
    have h15 := rpi.impl_replay log w14 (by omega) H14.tb
    clear h14 H13 hb14
    go_wp2_with (go_at_call 18; fail)
    refine h15.mono ?_
    rintro e w15 ⟨va, rfl, hoa, hb15⟩
    have H15 := H14.on hb15
    have h16 := rps.spec_replay log w15 (by omega)
    clear h15 H14
    go_wp2_with (go_at_call 19; fail)
    refine h16.mono ?_
    rintro e w16 ⟨vb, rfl, hob, hb16⟩
    have H16 := H15.on hb16
    have hpl := len_of hoa
    obtain ⟨za, zc, rfl, hza⟩ := own_row flP.c_len hoa
    obtain ⟨zb, zd, rfl, hzb⟩ := own_row flP.c_len hob
    have h17 := smp.same_pairs _ _ za zb zc zd w16 hpl hpl (hza.inn hb16) hzb
    rw [smp.sameL_yes rfl] at h17
    clear h16 H15 hb15 hb16 hoa hob hza hzb
    go_wp2_with (go_at_call 15; fail)
    refine h17.mono ?_
    rintro e w17 ⟨rfl, hb17⟩
    have H17 : Hid (Hd w1 w2 w17 a0 len0 ya l (.slice qa r2.length qc) (.slice qb r3.length qd) r2 r3) := H16.on hb17
    clear h17 H16 hb17 hpl
    go_wp2
    go_loopw [16] (fun x wr => ∃ k : Nat, k ≤ L.length ∧ x = .int .i64 k ∧ Hid (Hd w1 w2 wr a0 len0 ya l (.slice qa r2.length qc) (.slice qb r3.length qd) r2 r3)) (fun x _ => L.length - (intOf x).toNat)
    case atStart => exact ⟨0, Nat.zero_le _, rfl, H17⟩
    case round =>
      obtain ⟨k, hk, rfl, hst⟩ := hrel
      clear H17
      by_cases hkl : k < L.length
      · have i2 : (k : Int) < (L.length : Int) := by omega
        have g2 : r2[k]? = some r2[k] := List.getElem?_eq_getElem (by omega)
        have g3 : r3[k]? = some r3[k] := List.getElem?_eq_getElem (by omega)
        obtain ⟨qa', qc', hqe, hqr⟩ := own_row cR_len hst.out.ro2.row
        obtain ⟨qb', qd', hqe3, hqr3⟩ := own_row cR_len hst.out.ro3.row
        obtain ⟨rfl, _, rfl⟩ := Value.slice.inj hqe
        obtain ⟨rfl, _, rfl⟩ := Value.slice.inj hqe3
        rcases hqr with h0 | ⟨gb2, go2, hq2, hlt2, hc2⟩
        · rw [h0] at hl2; simp at hl2; omega
        rcases hqr3 with h0 | ⟨gb3, go3, hq3, hlt3, hc3⟩
        · rw [h0] at hl3; simp at hl3; omega
        subst hq2 hq3
        have y2 := hc2 k _ g2 0 _ rfl
        have y3 := hc3 k _ g3 0 _ rfl
        have m2 := hst.out.ro2.runs _ (List.mem_of_getElem? g2)
        have m3 := hst.out.ro3.runs _ (List.mem_of_getElem? g3)
        have hel : r2[k].l = r3[k].l := by
          have e1 : (r2.map (·.l))[k]? = some r2[k].l := by rw [List.getElem?_map, g2]; rfl
          have e2 : (r3.map (·.l))[k]? = some r3[k].l := by rw [List.getElem?_map, g3]; rfl
          rw [HM2.out] at e1
          rw [HM3.out, e1] at e2
          exact Option.some.inj e2
        obtain ⟨⟨ra2, rc2, rl2⟩, he2⟩ : ∃ e, r2[k] = e := ⟨_, rfl⟩
        obtain ⟨⟨ra3, rc3, rl3⟩, he3⟩ : ∃ e, r3[k] = e := ⟨_, rfl⟩
        rw [he2] at y2 m2 hel
        rw [he3] at y3 m3 hel
        simp only at y2 y3 m2 m3 hel
        subst hel
        simp only [Nat.mul_one, Nat.add_zero] at y2 y3
        have hin : rl2 ∈ L := by
          have e1 : (r2.map (·.l))[k]? = some rl2 := by rw [List.getElem?_map, g2, he2]; rfl
          rw [HM2.out] at e1
          exact List.mem_of_getElem? e1
        have hrl := (rro.okb_all (rro.rok_form (HFORM.out.1 rl2 hin)).1).1
        have Y2 : ∀ N : qi.Cls wr, N.x.cell? ⟨gb2, go2 + k, none⟩ = some (.slice ra2 rl2.length rc2) := fun N => (Below.cell N.h (p := ⟨gb2, go2 + k, none⟩) hlt2).trans y2
        have Y3 : ∀ N : qi.Cls wr, N.x.cell? ⟨gb3, go3 + k, none⟩ = some (.slice ra3 rl2.length rc3) := fun N => (Below.cell N.h (p := ⟨gb3, go3 + k, none⟩) hlt3).trans y3
        have ks : ∀ N : qi.Cls wr, Calls Tryz.prog 15 #[.slice ra2 rl2.length rc2, .slice ra3 rl2.length rc3] N.x fun e w' => e = .returned (.bool true) ∧ qi.T wr w' := fun N => (smp.same_pairs rl2 rl2 ra2 ra3 rc2 rc3 N.x (by unfold maxLen; omega) (by unfold maxLen; omega) ((fo.Mine.row m2).inn N.h) ((fo.Mine.row m3).inn N.h)).mono fun e w' h => ⟨by rw [smp.sameL_yes rfl] at h; exact h.1, Below.trans N.h (h.2.mono (Below.size N.h))⟩
        clear y2 y3 m2 m3 g2 g3 hc2 hc3 hqe hqe3 he2 he3 hin
        go_wp2
        refine qi.region_in wr (qi.T.refl wr) (by kernel_rfl) (by kernel_rfl) ?_
        repeat (go_big_quiet_step (first | (go_at_call 15; refine (ks _).mono ?_; rintro e wx ⟨rfl, hTx⟩; exact ⟨rfl, ⟨wx, hTx⟩, rfl⟩)))
        refine wpQuiet_nil ?_
        rintro _ ⟨N, rfl⟩
        have hN : Below wr.heap.size wr N.x := N.h
        generalize N.x = wN at hN ⊢
        clear N ks Y2 Y3
        have HN : Hid (Hd w1 w2 wN a0 len0 ya l (.slice (some ⟨gb2, go2, none⟩) r2.length qc) (.slice (some ⟨gb3, go3, none⟩) r3.length qd) r2 r3) := hst.out.on hN
        clear hst hN
        have hL4 : L.length ≤ 1048576 := by have h9 := HLL.out; omega
        go_wp2
        go_roundw
        case rel => exact ⟨k + 1, by omega, by go_num, HN⟩
        case measure => simp [intOf]; omega
      · obtain rfl : k = L.length := by omega
        have i2 : ¬ (L.length : Int) < (L.length : Int) := by omega
        obtain ⟨C, hC⟩ : ∃ C, rro.cat L = C := ⟨_, rfl⟩
        have HCC : Hid (rro.cat L = C) := hC
        have hform := HFORM.out.2
        rw [hC] at hform
        obtain ⟨rfl, hex, hCs⟩ := hform
        have s1 : (0 : Int) ≤ (C.size : Int) := by omega
        have s2 : (C.size : Int) ≤ (log.size : Int) := by omega
        clear hC
        have h18 := apd.impl_append C l ya yc wr hst.out.tb.tab (by omega) HFT.out hst.out.row
        have HPUT : Hid (apd.can C l = !decide (R.size = 0) ∧ apd.ans C l = C ++ R) := by
          unfold Hid apd.can apd.ans
          rw [HRr.out]
          by_cases h0 : R.size = 0
          · rw [if_pos (.inl h0)]
            refine ⟨by rw [decide_eq_true (Or.inl h0), decide_eq_true h0], ?_⟩
            rw [empty_of h0, rro.app_nil]
          · rw [if_neg (by omega)]
            exact ⟨by rw [decide_eq_false (by omega), decide_eq_false h0], rfl⟩
        rw [HPUT.out.1, HPUT.out.2] at h18
        have HRO : Hid (R.size = 0 ↔ bo1 = false) := by
          unfold Hid
          rw [← HBO.out, ← HRr.out]
          have h7 := HS.out
          constructor
          · intro h
            cases hb : bo.okb l with
            | false => rfl
            | true =>
              have h8 := (rro.put_got (rro.got_put hb)).2.2
              unfold rcd.out at h
              rw [h7] at h h8
              rw [if_neg (by omega)] at h
              have h9 := rro.R_size (c := cs.sum S) (b := S) (sp.sum_lt _) (by omega)
              unfold rro.R at h9
              omega
          · intro h
            have h8 := (rro.out_pos (l := l)).2 h
            unfold rcd.out
            rw [if_pos (.inl h8)]
            rfl
        have HSO : Hid (S.size = 0 ↔ bo1 = false) := by
          unfold Hid
          rw [← HBO.out, ← HS.out]
          exact rro.out_pos
        go_wp2_with (go_at_call 20; fail)
        refine h18.mono ?_
        rintro e w18 ⟨rfl, hb18⟩
        have H18 := hst.out.on hb18
        have h19 := bo.spec_okb l ya yc w18 HFT.out H18.row
        rw [HBO.out] at h19
        clear h18 hb18 hst
        cases bo1 with
        | false =>
          obtain rfl := empty_of (HRO.out.2 rfl)
          obtain rfl := empty_of (HSO.out.2 rfl)
          simp only [show decide ((⟨#[]⟩ : ByteArray).size = 0) = true from rfl, Bool.not_true, rro.app_nil]
          go_wp2_with (go_at_call 17; fail)
          refine h19.mono ?_
          rintro e w19 ⟨rfl, hb19⟩
          have H19 := H18.on hb19
          have hfin : Below w.heap.size w w19 := HB1.out.trans (H19.bel.mono HB1.out.size)
          clear h19 H18 hb19 H19
          go_wp2
          go_ret
          exact ⟨by simp, hfin⟩
        | true =>
          have hR1 : 1 ≤ R.size := by
            rcases Nat.eq_zero_or_pos R.size with h | h
            · have h9 := HRO.out.1 h; cases h9
            · exact h
          have hS1 : 1 ≤ S.size := by
            rcases Nat.eq_zero_or_pos S.size with h | h
            · have h9 := HSO.out.1 h; cases h9
            · exact h
          obtain ⟨rm1, rm2⟩ := not_empty hR1
          obtain ⟨sm1, sm2⟩ := not_empty hS1
          have hdR : decide (R.size = 0) = false := decide_eq_false (by omega)
          have HROK : Hid (rro.Rok l) := by unfold Hid rro.Rok; rw [HRr.out]; omega
          have HGOT : Hid (gbp.gotL S = l ∧ gbp.gotB S = true) := by
            have h9 := gbp.got_some (rro.got_put (l := l) HBO.out)
            rw [HS.out] at h9
            exact h9
          simp only [hdR, Bool.not_false]
          go_wp2_with (go_at_call 17; fail)
          refine h19.mono ?_
          rintro e w19 ⟨rfl, hb19⟩
          have H19 := H18.on hb19
          have h20 := gim.impl_got S w19 (by omega) H19.tb.et
          rw [HGOT.out.1, HGOT.out.2] at h20
          obtain ⟨M, hM⟩ : ∃ M, C ++ R = M := ⟨_, rfl⟩
          have hMs : M.size = C.size + R.size := by rw [← hM, ByteArray.size_append]
          have HMM : Hid (rro.cat L ++ rcd.out l = M) := by unfold Hid; rw [HCC.out, HRr.out]; exact hM
          have hMM : M.size ≤ 200000 := by omega
          have hM1 : 1 ≤ M.size := by omega
          have HRM : Hid (rcp.recs M = (L ++ [l], ((M.size : Nat) : Int))) := by
            have h9 := rro.recs_more (l := L) (b := l) HFORM.out.1 HROK.out (by rw [HMM.out]; exact hMM)
            rw [HMM.out] at h9
            exact h9
          have HRC : Hid (rcp.recs (M.extract 0 (M.size - 1)) = (L, ((C.size : Nat) : Int))) := by
            have h9 := rro.recs_cut (l := L) (b := l) HFORM.out.1 HROK.out (by rw [HMM.out]; exact hMM)
            rw [HMM.out, HCC.out] at h9
            exact h9
          have HMS : Hid (M.size = C.size + R.size) := hMs
          have HMR : Hid (S.size ≤ M.size) := by
            have h9 := (rro.rok_form HROK.out).2.2.1
            have h8 := HRr.out
            have h7 := HS.out
            rw [h8, h7] at h9
            have h6 := congrArg ByteArray.size h9
            rw [rro.R_size (sp.sum_lt _) (by omega)] at h6
            unfold Hid
            omega
          rw [hM]
          clear h19 H18 hb19 hMs hM
          go_wp2_with (go_at_call 11; fail)
          refine h20.mono ?_
          rintro e w20 ⟨vb, rfl, hob, hb20⟩
          have H20 := H19.on hb20
          obtain ⟨ba, bc, rfl, hbr⟩ := own_row flP.c_len hob
          have h21 := rcI.impl_recs M w20 (by omega) H20.tb
          rw [HRM.out] at h21
          clear h20 hob H19
          go_wp2_with (go_at_call 6; fail)
          refine h21.mono ?_
          rintro e w21 ⟨v5, rfl, r5, hr5, hro5⟩
          have hb21 := hro5.bel
          have H21 := H20.on hb21
          have hbr21 := hbr.inn hb21
          obtain ⟨pa, pc, rfl, _⟩ := own_row cR_len hro5.row
          obtain ⟨n5, hn5⟩ : ∃ n5, L.length + 1 = n5 := ⟨_, rfl⟩
          have hl5 : r5.length = n5 := by
            have h9 := congrArg List.length hr5
            rw [List.length_map, List.length_append, List.length_singleton] at h9
            exact h9.trans hn5
          rw [hl5]
          have HN5 : Hid (L.length + 1 = n5) := hn5
          clear hn5
          obtain ⟨K, hK⟩ : ∃ K, M.extract 0 (M.size - 1) = K := ⟨_, rfl⟩
          have hKs : K.size ≤ M.size := by rw [← hK, ByteArray.size_extract]; omega
          rw [hK] at HRC
          have t1 : IntKind.i64.wrap ((M.size : Int) - 1) = ((M.size - 1 : Nat) : Int) := by rw [IntKind.wrap_i64]; omega
          have t2 : (0 : Int) ≤ ((M.size - 1 : Nat) : Int) := by omega
          have t3 : ((M.size - 1 : Nat) : Int) ≤ (M.size : Int) := by omega
          have h22 := rcI.impl_recs K w21 (by omega) H21.tb
          rw [HRC.out] at h22
          clear h21 H20 hro5 hr5 hbr
          go_wp2_with (go_at_call 6; fail)
          refine h22.mono ?_
          rintro e w22 ⟨v6, rfl, r6, hr6, hro6⟩
          have hb22 := hro6.bel
          have H22 := H21.on hb22
          have hbr22 := hbr21.inn hb22
          obtain ⟨pb1, pc1, rfl, _⟩ := own_row cR_len hro6.row
          have hl6 : r6.length = L.length := by
            have h9 := congrArg List.length hr6
            rw [List.length_map] at h9
            exact h9
          rw [hl6]
          have HH22 : Hid (Hd w1 w2 w22 a0 len0 ya l (.slice qa r2.length qc) (.slice qb r3.length qd) r2 r3) := H22
          obtain ⟨n3, hn3, hat3⟩ := law_at (cap := cap0) 3 hlen (by omega) HH22.out.code
          obtain ⟨n4, hn4, hat4⟩ := law_at (cap := cap0) 4 hlen (by omega) HH22.out.code
          obtain ⟨W2, C2, g, hcv, hgw, hcells, hfrz, hT2, hW2⟩ := conv (w := w22) (d := M) (T.refl w22)
          clear h22 hr6 hro6 H21 H22 hbr21
          have hHMR := HMR.out
          have hmod : n3 % S.size < S.size := Nat.mod_lt _ (by omega)
          obtain ⟨j, hj⟩ : ∃ j, S.size - 1 - n3 % S.size = j := ⟨_, rfl⟩
          have hjl : j < S.size := by omega
          obtain ⟨p, hp⟩ : ∃ p, M.size - S.size + j = p := ⟨_, rfl⟩
          have hpl : p < M.size := by omega
          have hp0 : wrap64 (((M.size - 1 : Nat) : Int) - (n3 : Int) % (S.size : Int)) = (p : Int) := by
            have h9 : (n3 : Int) % (S.size : Int) = ((n3 % S.size : Nat) : Int) := by simp
            rw [h9]
            unfold wrap64
            omega
          have HP : Hid (M.size - S.size + j = p) := hp
          clear hmod hj hp hHMR
          go_wp2_with (go_at_call 21; refine (hat3 W2 hT2).mono ?_; rintro e _ ⟨rfl, rfl⟩)
          try rw [hp0]
          clear hp0
          have hcj := hcells p hpl
          have hfj := hfrz p hpl
          obtain ⟨bj, hbj⟩ : ∃ bj, cs.bt M p = bj := ⟨_, rfl⟩
          have HBJ : Hid (cs.bt M p = bj) := hbj
          rw [hbj] at hcj
          have hbj8 : bj < 256 := by rw [← hbj]; exact cs.bt_lt M p
          have HCL : Hid (∀ j, j < M.size → W2.cell? ⟨g, j, none⟩ = some (.int .u8 (cs.bt M j : Nat))) := hcells
          clear hcells hfrz hbj hcv hat3
          obtain ⟨y, hy8, hyne, hY⟩ : ∃ y : Nat, y < 256 ∧ bj ≠ y ∧ bits BinOp.xor IntKind.u8 (bj : Int) (IntKind.u8.wrap (IntKind.i64.wrap (1 + (n4 : Int).tmod 255))) = (y : Int) := flip hbj8 hn4
          obtain ⟨hcv2, hT3⟩ := told (C2 := C2) (y := y) hT2 hgw HCL.out hpl
          obtain ⟨D, hD⟩ : ∃ D, strOfNums (nums M p y) = D := ⟨_, rfl⟩
          have HSP : Hid (rcp.recs D = (L, ((C.size : Nat) : Int))) := by
            have h9 := fun h0 => spoilt (j := j) (y := y) HFORM.out.1 HROK.out (by rw [HMM.out]; exact hMM) (by rw [HS.out]; exact hjl) hy8 h0
            have h8 : cs.bt M p = cs.bt S j := by
              obtain ⟨y', hy', hne'⟩ : ∃ y' : Nat, y' < 256 ∧ cs.bt (pb.out l) j ≠ y' := by
                by_cases h : cs.bt (pb.out l) j = 0
                · exact ⟨1, by omega, by omega⟩
                · exact ⟨0, by omega, h⟩
              have h7 := (spoilt (j := j) HFORM.out.1 HROK.out (by rw [HMM.out]; exact hMM) (by rw [HS.out]; exact hjl) hy' hne').2
              rw [HMM.out, HS.out, HP.out] at h7
              exact h7
            rw [HMM.out, HS.out, HP.out, hD, HCC.out] at h9
            exact (h9 (by rw [← h8, HBJ.out]; exact hyne)).1
          have hDs : D.size ≤ 200000 := by rw [← hD, nums_size]; exact hMM
          rw [hD] at hcv2
          clear hD
          go_region_with (go_at_call 21; refine (hat4 _ (by first | exact hT2 | exact hT2.drew)).mono ?_; rintro e _ ⟨rfl, rfl⟩)
          all_goals
            generalize (W2.setCell ⟨g, p, none⟩ (.int .u8 (y : Int))).drew = W3 at hcv2 hT3 ⊢
            have H24 := HH22.out.on hT3
            have hbr24 := hbr22.inn hT3
            have h25 := rcI.impl_recs D W3 (by omega) H24.tb
            rw [HSP.out] at h25
            clear hat4
            go_wp2_with (go_at_call 6; fail)
            refine h25.mono ?_
            rintro e w25 ⟨v7, rfl, r7, hr7, hro7⟩
            have hb25 := hro7.bel
            have H25 := H24.on hb25
            obtain ⟨pb2, pc2, rfl, _⟩ := own_row cR_len hro7.row
            have hl7 : r7.length = L.length := by
              have h9 := congrArg List.length hr7
              rw [List.length_map] at h9
              exact h9
            rw [hl7]
            have hll : l.length ≤ maxLen := by unfold maxLen; omega
            have h26 := smp.same_pairs l l ba ya bc yc w25 hll hll (hbr24.inn hb25) H25.row
            rw [smp.sameL_yes rfl] at h26
            clear h25 hr7 hro7 H24 hbr24
            go_wp2_with (go_at_call 15; fail)
            refine h26.mono ?_
            rintro e w26 ⟨rfl, hb26⟩
            have H26 := H25.on hb26
            have hfin : Below w.heap.size w w26 := HB1.out.trans (H26.bel.mono HB1.out.size)
            have q5 : IntKind.i64.wrap ((L.length : Int) + 1) = (n5 : Int) := by
              have h9 := HLL.out
              have h8 := HN5.out
              rw [IntKind.wrap_i64]
              omega
            clear h26 H25 hb26 H26 hcv2 hT3 hY hcj hfj hK hKs t1 t2 t3 hl5 hl6 hl7 hl2 hl3 hex s1 s2 i2 hk hkl
            go_wp2
            go_ret
            exact ⟨by simp, hfin⟩
end Go.Proofs.YtjnfljipomjcjaaGreatDoor.rwk
