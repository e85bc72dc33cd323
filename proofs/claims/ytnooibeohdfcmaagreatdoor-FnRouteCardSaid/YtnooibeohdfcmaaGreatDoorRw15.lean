/- The specification's Route. -/
import Derived.Test.YtnooibeohdfcmaaGreatDoorRw10
import Derived.Lib.SlicesCompact
import Derived.Test.YtnooibeohdfcmaaGreatDoorRw11
import Derived.Test.YtnooibeohdfcmaaGreatDoorSortLaidS
import Derived.Lib.OwnBridge
import Derived.Sort.OwnSorted
import Derived.Sort.Grow
import Derived.Test.YtnooibeohdfcmaaGreatDoorRw13
import Derived.Test.YtnooibeohdfcmaaGreatDoorRouteSpec
import Derived.Test.YtnooibeohdfcmaaGreatDoorRw14

/- Texts sorted, and each but once: as when they are put one by one. -/
namespace Go.Proofs.YtnooibeohdfcmaaGreatDoor.rtu
open Go.ChangeShapes Go.WideShapes Go.ChangeAt Go.RowKit Go.Proofs.YtnooibeohdfcmaaGreatDoor.rc Go.Proofs.YtnooibeohdfcmaaGreatDoor.ro Go.Proofs.YtnooibeohdfcmaaGreatDoor.rtp
set_option linter.unusedVariables false

def bt (L : List ByteArray) : List (List UInt8) := L.map fun s => s.data.toList
theorem less_lt : ∀ (a b : List UInt8), Op.bytesLess a b = true → a < b
  | _, [], h => by simp [Op.bytesLess] at h
  | [], y :: b, _ => by simp
  | x :: a, y :: b, h => by
    simp only [Op.bytesLess, Bool.or_eq_true, decide_eq_true_eq, Bool.and_eq_true, beq_iff_eq] at h
    rw [List.cons_lt_cons_iff]
    rcases h with h | ⟨h1, h2⟩
    · exact .inl h
    · exact .inr ⟨h1, less_lt a b h2⟩
theorem bt_up {L : List ByteArray} (h : Asc L) : (bt L).Pairwise fun a b => a < b := by
  unfold bt
  rw [List.pairwise_map]
  refine h.imp fun {a b} hab => ?_
  unfold lt at hab
  rw [ByteArray.toList_eq, ByteArray.toList_eq] at hab
  exact less_lt _ _ hab
theorem up_ext : ∀ {l m : List (List UInt8)}, l.Pairwise (fun a b => a < b) → m.Pairwise (fun a b => a < b) → (∀ e, e ∈ l ↔ e ∈ m) → l = m
  | [], [], _, _, _ => rfl
  | [], b :: m, _, _, h => by have := (h b).2 (by simp); cases this
  | a :: l, [], _, _, h => by have := (h a).1 (by simp); cases this
  | a :: l, b :: m, hl, hm, h => by
    obtain ⟨l1, l2⟩ := List.pairwise_cons.1 hl
    obtain ⟨m1, m2⟩ := List.pairwise_cons.1 hm
    have e : a = b := by
      rcases List.mem_cons.1 ((h a).1 (by simp)) with h1 | h1
      · exact h1
      · rcases List.mem_cons.1 ((h b).2 (by simp)) with h2 | h2
        · exact h2.symm
        · exact absurd (l1 b h2) (List.lt_asymm (m1 a h1))
    subst e
    congr 1
    refine up_ext l2 m2 fun x => ⟨fun hx => ?_, fun hx => ?_⟩
    · rcases List.mem_cons.1 ((h x).1 (by simp [hx])) with h1 | h1
      · subst h1; exact absurd (l1 x hx) (List.lt_irrefl x)
      · exact h1
    · rcases List.mem_cons.1 ((h x).2 (by simp [hx])) with h1 | h1
      · subst h1; exact absurd (m1 x hx) (List.lt_irrefl x)
      · exact h1
theorem lt_of_le_ne {a b : List UInt8} (h : a ≤ b) (hne : a ≠ b) : a < b := by
  by_cases hh : a < b
  · exact hh
  · exact absurd (List.le_antisymm h (List.not_lt.1 hh)) hne
/-- what is kept of a sorted row's first m -/
theorem kept (d : Array (List UInt8)) (hs : ∀ i j, i ≤ j → j < d.size → d[i]! ≤ d[j]!) : ∀ m, m ≤ d.size →
    (Lib.compactUpTo d m).Pairwise (fun a b => a < b) ∧ ∀ x, x ∈ Lib.compactUpTo d m ↔ ∃ j, j < m ∧ d[j]! = x
  | 0, _ => by simp [Lib.compactUpTo]
  | m + 1, hm => by
    obtain ⟨ih1, ih2⟩ := kept d hs m (by omega)
    rw [Lib.compactUpTo_succ]
    cases hk : Lib.keeps d m with
    | true =>
      rw [if_pos rfl]
      refine ⟨List.pairwise_append.2 ⟨ih1, List.pairwise_singleton _ _, ?_⟩, fun x => ?_⟩
      · intro a ha b hb
        rw [List.mem_singleton] at hb
        subst hb
        obtain ⟨j, hj, rfl⟩ := (ih2 a).1 ha
        refine lt_of_le_ne (hs j m (by omega) (by omega)) fun e => ?_
        simp only [Lib.keeps, decide_eq_true_eq] at hk
        rcases hk with hk | hk
        · omega
        · refine hk (List.le_antisymm ?_ (hs (m - 1) m (by omega) (by omega)))
          rw [← e]
          exact hs j (m - 1) (by omega) (by omega)
      · rw [List.mem_append, ih2, List.mem_singleton]
        constructor
        · rintro (⟨j, h1, h2⟩ | h)
          · exact ⟨j, by omega, h2⟩
          · exact ⟨m, by omega, h.symm⟩
        · rintro ⟨j, h1, h2⟩
          rcases Nat.lt_or_eq_of_le (Nat.le_of_lt_succ h1) with h | h
          · exact .inl ⟨j, h, h2⟩
          · subst h; exact .inr h2.symm
    | false =>
      rw [if_neg (by simp), List.append_nil]
      simp only [Lib.keeps, decide_eq_false_iff_not, not_or, Decidable.not_not] at hk
      refine ⟨ih1, fun x => ?_⟩
      rw [ih2]
      constructor
      · rintro ⟨j, h1, h2⟩
        exact ⟨j, by omega, h2⟩
      · rintro ⟨j, h1, h2⟩
        rcases Nat.lt_or_eq_of_le (Nat.le_of_lt_succ h1) with h | h
        · exact ⟨j, h, h2⟩
        · subst h; exact ⟨j - 1, by omega, by rw [← hk.2]; exact h2⟩
theorem uniq (L : List ByteArray) : Lib.compact ((bt L).mergeSort fun x y => decide (x ≤ y)) = bt (puts L) := by
  obtain ⟨S, hS⟩ : ∃ S, (bt L).mergeSort (fun x y => decide (x ≤ y)) = S := ⟨_, rfl⟩
  have hsort : S.Pairwise fun a b => a ≤ b := by
    have := List.pairwise_mergeSort (le := fun x y : List UInt8 => decide (x ≤ y)) (fun a b c h1 h2 => by simp only [decide_eq_true_eq] at *; exact List.le_trans h1 h2) (fun a b => by simp only [Bool.or_eq_true, decide_eq_true_eq]; exact List.le_total a b) (bt L)
    rw [hS] at this
    exact this.imp fun h => by simpa using h
  have hmem : ∀ x, x ∈ S ↔ x ∈ bt L := fun x => by rw [← hS]; exact List.mem_mergeSort
  rw [hS]
  have hs : ∀ i j, i ≤ j → j < S.toArray.size → S.toArray[i]! ≤ S.toArray[j]! := fun i j hij hj => by
    have hj' : j < S.length := by simpa using hj
    have e1 : S.toArray[i]! = S[i]'(by omega) := by simp [getElem!_pos, show i < S.length by omega]
    have e2 : S.toArray[j]! = S[j] := by simp [getElem!_pos, hj']
    rw [e1, e2]
    rcases Nat.lt_or_eq_of_le hij with h | h
    · exact List.pairwise_iff_getElem.1 hsort i j (by omega) hj' h
    · subst h; exact List.le_refl _
  obtain ⟨k1, k2⟩ := kept S.toArray hs S.length (by simp)
  refine up_ext k1 (bt_up (puts_asc L)) fun x => ?_
  rw [show (x ∈ Lib.compact S) = (x ∈ Lib.compactUpTo S.toArray S.length) from rfl, k2]
  have hb : x ∈ bt (puts L) ↔ x ∈ S := by
    rw [hmem]
    unfold bt
    simp only [List.mem_map, puts_mem]
  rw [hb]
  constructor
  · rintro ⟨j, h1, h2⟩
    have e : S.toArray[j]! = S[j] := by simp [getElem!_pos, h1]
    rw [← h2, e]
    exact List.getElem_mem h1
  · intro h
    obtain ⟨j, hj, e⟩ := List.getElem_of_mem h
    exact ⟨j, hj, by simp [getElem!_pos, hj, e]⟩
end Go.Proofs.YtnooibeohdfcmaaGreatDoor.rtu

/- slices.Sort and slices.Compact of texts in a row of its own. -/
namespace Go.Proofs.YtnooibeohdfcmaaGreatDoor.rts
open Go.ChangeShapes Go.WideShapes Go.ChangeAt Go.RowKit Go.Sort Go.Proofs.YtnooibeohdfcmaaGreatDoor.fl Go.Proofs.YtnooibeohdfcmaaGreatDoor.ptt Go.Proofs.YtnooibeohdfcmaaGreatDoor.rtp Go.Proofs.YtnooibeohdfcmaaGreatDoor.rtk Go.Proofs.YtnooibeohdfcmaaGreatDoor.rtu
set_option linter.unusedVariables false

theorem cells_eq (L : List ByteArray) : L.flatMap cS = (bt L).map encStr := by
  unfold bt
  rw [Lib.map_encStr]
  induction L with
  | nil => rfl
  | cons a l ih => rw [List.flatMap_cons, List.map_cons, ih]; rfl
theorem bt_len (L : List ByteArray) : (bt L).length = L.length := by simp [bt]
theorem sort_S (ss : List (List UInt8)) (g cap B : Nat) (w : World) (ho : w.ownsRow B 9 1 (.slice (some ⟨g, 0, none⟩) ss.length cap) ss.length (ss.map encStr)) (hl : ss.length ≤ 1048576) (hB : B ≤ w.heap.size) :
    Calls Tryz.prog 30 #[.slice (some ⟨g, 0, none⟩) ss.length cap] w fun e w' => e = .returned (.tuple #[]) ∧ w'.ownsRow B 9 1 (.slice (some ⟨g, 0, none⟩) ss.length cap) ss.length ((ss.mergeSort fun x y => decide (x ≤ y)).map encStr) ∧ Below B w w' := by
  obtain ⟨g', cap', e0, hb, hgl, _, _, _, hH⟩ := Lib.holds_of_ownsRow ho (by simp)
  cases e0
  refine (shSortLaidS.slices_Sort_string g 0 cap ss w hH hgl (by omega)).mono ?_
  rintro e w' ⟨rfl, n, os, rfl⟩
  obtain ⟨_, ⟨e1, _⟩ | ⟨g', cap', cur, hv, hbase, hblk, h1, h2, h3, h4⟩⟩ := ho
  · cases e1
  cases hv
  exact ⟨rfl, ownsRow_sorted (by simp) hbase hblk h1 h2 h3, (Below.refl B w).grown (grownBy_sorted _) hB (fun k hk => by cases hk; exact hbase)⟩
theorem compact_S (zs : List (List UInt8)) (g cap B : Nat) (w : World) (ho : w.ownsRow B 9 1 (.slice (some ⟨g, 0, none⟩) zs.length cap) zs.length (zs.map encStr)) (hl : zs.length ≤ 1048576) :
    Calls Tryz.prog 31 #[.slice (some ⟨g, 0, none⟩) zs.length cap] w fun e w' => e = .returned (.slice (some ⟨g, 0, none⟩) (Lib.compact zs).length cap) ∧ w'.ownsRow B 9 1 (.slice (some ⟨g, 0, none⟩) (Lib.compact zs).length cap) (Lib.compact zs).length ((Lib.compact zs).map encStr) ∧ Below B w w' := by
  obtain ⟨g', cap', e0, hb, hgl, hc, _, _, hH⟩ := Lib.holds_of_ownsRow ho (by simp)
  cases e0
  have hle := Lib.compact_length_le zs
  refine (shSortLaidS.slices_Compact_string g 0 cap zs w hH (by omega) hc).mono ?_
  rintro e w' ⟨rfl, q, rfl⟩
  have h := Lib.ownsRow_putRow (q := q) (k := (Lib.compact zs).length) (ys := Lib.compact zs ++ List.replicate (zs.length - (Lib.compact zs).length) []) ho (by simp; omega) hle
  rw [List.take_left] at h
  exact ⟨rfl, h, Lib.below_putRow (Below.refl B w) hb⟩
/-- the queues, sorted -/
def srt (L : List ByteArray) : List (List UInt8) := (bt L).mergeSort fun x y => decide (x ≤ y)
theorem srt_len (L : List ByteArray) : (srt L).length = L.length := by unfold srt; rw [List.length_mergeSort, bt_len]
theorem sort_texts (L : List ByteArray) (g cap B : Nat) (w : World) (ho : w.ownsRow B 9 1 (.slice (some ⟨g, 0, none⟩) L.length cap) L.length (L.flatMap cS)) (hl : L.length ≤ 1048576) (hB : B ≤ w.heap.size) :
    Calls Tryz.prog 30 #[.slice (some ⟨g, 0, none⟩) L.length cap] w fun e w' => e = .returned (.tuple #[]) ∧ w'.ownsRow B 9 1 (.slice (some ⟨g, 0, none⟩) L.length cap) L.length ((srt L).map encStr) ∧ Below B w w' := by
  rw [cells_eq, ← bt_len L] at ho
  have := sort_S (bt L) g cap B w ho (by rw [bt_len]; exact hl) hB
  rw [bt_len] at this
  exact this
theorem compact_texts (L : List ByteArray) (g cap B : Nat) (w : World) (ho : w.ownsRow B 9 1 (.slice (some ⟨g, 0, none⟩) L.length cap) L.length ((srt L).map encStr)) (hl : L.length ≤ 1048576) :
    Calls Tryz.prog 31 #[.slice (some ⟨g, 0, none⟩) L.length cap] w fun e w' => e = .returned (.slice (some ⟨g, 0, none⟩) (puts L).length cap) ∧ w'.ownsRow B 9 1 (.slice (some ⟨g, 0, none⟩) (puts L).length cap) (puts L).length ((puts L).flatMap cS) ∧ Below B w w' := by
  rw [← srt_len L] at ho
  have h := compact_S (srt L) g cap B w ho (by rw [srt_len]; exact hl)
  have hu : Lib.compact (srt L) = bt (puts L) := uniq L
  rw [srt_len, hu, bt_len, ← cells_eq] at h
  exact h
end Go.Proofs.YtnooibeohdfcmaaGreatDoor.rts

/- The specification's Route. -/
namespace Go.Proofs.YtnooibeohdfcmaaGreatDoor.rsr
open Go.ChangeShapes Go.WideShapes Go.ChangeAt Go.RowKit Go.Proofs.YtnooibeohdfcmaaGreatDoor.fl Go.Proofs.YtnooibeohdfcmaaGreatDoor.rr Go.Proofs.YtnooibeohdfcmaaGreatDoor.rc Go.Proofs.YtnooibeohdfcmaaGreatDoor.ro Go.Proofs.YtnooibeohdfcmaaGreatDoor.rtp Go.Proofs.YtnooibeohdfcmaaGreatDoor.rta Go.Proofs.YtnooibeohdfcmaaGreatDoor.ptt
set_option linter.unusedVariables false

theorem emp_eq {v : ByteArray} (h : v ≠ ⟨#[]⟩) : (v.toList == ([] : List UInt8)) = false := by
  obtain ⟨⟨l⟩⟩ := v
  cases l with
  | nil => exact absurd rfl h
  | cons a r => simp [ByteArray.toList_eq]
/-- what stands while the bindings are gone through -/
structure St (W : World) (L : List ByteArray) (v : Value) (wr : World) : Prop where
  bel : Below W.heap.size W wr
  al : ∃ g c, v = .slice (some ⟨g, 0, none⟩) L.length c ∧ L.length ≤ c ∧ Row cS 1 wr wr.heap.size (some ⟨g, 0, none⟩) L
theorem St.on {W wr X : World} {L : List ByteArray} {v : Value} (h : St W L v wr) (hb : Below wr.heap.size wr X) : St W L v X := by
  obtain ⟨g, c, h1, h2, h3⟩ := h.al
  exact ⟨h.bel.trans (hb.mono h.bel.size), g, c, h1, h2, h3.inn hb⟩
/-- what a law wants of the specification's answer -/
def RS (w : World) (L : List ByteArray) (b : Bool) (e : Ending) (w' : World) : Prop := ∃ g c, e = .returned (.tuple #[.slice (some ⟨g, 0, none⟩) L.length c, .bool b]) ∧ Row cS 1 w' w'.heap.size (some ⟨g, 0, none⟩) L ∧ Below w.heap.size w w'

set_option maxRecDepth 100000 in
set_option maxHeartbeats 4000000 in
theorem spec_route (es : List Ex) (bs : List Bi) (ge ce gb cb : Nat) (x key : ByteArray) (w : World) (hel : es.length ≤ 1048576) (hbl : bs.length ≤ 1048576) (hes : ∀ e ∈ es, e.n.size ≤ 1048576) (hbs : ∀ b ∈ bs, b.x.size ≤ 1048576 ∧ b.k.size ≤ 1048576 ∧ b.q.size ≤ 1048576) (hx : x.size ≤ 1048576) (hkey : key.size ≤ 1048576) (hE : RE w ge es) (hB : RB w gb bs) (ea ba : Option Addr) (hea : Hid (apa.NQ ea ⟨ge, 0, none⟩ es.length ce)) (hba : Hid (apa.NQ ba ⟨gb, 0, none⟩ bs.length cb)) :
    Calls Tryz.prog 7 #[.agg #[.slice ea es.length ce, .slice ba bs.length cb], .string x, .string key] w fun e w' => RS w (ansL es bs x key) (ansB es bs x key) e w' := by
  have hb0 : Below w.heap.size w (w.alloc (.cells #[.slice ea es.length ce, .slice ba bs.length cb] 27)) := (Below.refl _ _).alloc (Nat.le_refl _) _
  have hA0 := bnew w #[.slice ea es.length ce, .slice ba bs.length cb] 27
  obtain ⟨W0, hW0⟩ : ∃ W0, w.alloc (.cells #[.slice ea es.length ce, .slice ba bs.length cb] 27) = W0 := ⟨_, rfl⟩
  rw [hW0] at hb0 hA0
  have hlt0 := (Array.getElem?_eq_some_iff.1 hA0).1
  have hb1 : Below W0.heap.size W0 (W0.alloc (.cells #[] 9)) := (Below.refl _ _).alloc (Nat.le_refl _) _
  obtain ⟨W, hW⟩ : ∃ W, W0.alloc (.cells #[] 9) = W := ⟨_, rfl⟩
  have hWs : W.heap.size = W0.heap.size + 1 := by rw [← hW]; simp
  rw [hW] at hb1
  have hbW : Below w.heap.size w W := hb0.trans (hb1.mono hb0.size)
  have hA := bstay hA0 hb1 hlt0
  have hlt : w.heap.size < W.heap.size := Nat.lt_of_lt_of_le hlt0 hb1.size
  have BX : Hid (∀ w', Below W.heap.size W w' → w'.cell? ⟨w.heap.size, 0, none⟩ = some (.slice ea es.length ce) ∧ w'.cell? ⟨w.heap.size, 1, none⟩ = some (.slice ba bs.length cb)) := fun w' h => by
    have h1 := bstay hA h hlt
    exact ⟨bcell h1 rfl, bcell h1 rfl⟩
  have HE : Hid (RE W ge es) := hE.below hbW
  have HB : Hid (RB W gb bs) := hB.below hbW
  have hok := rk.spec_routes es bs ge ce gb cb W hel hbl hes hbs HE.out HB.out ea ba hea hba
  have HBS : Hid (∀ b ∈ bs, b.x.size ≤ 1048576 ∧ b.k.size ≤ 1048576 ∧ b.q.size ≤ 1048576) := hbs
  obtain ⟨c0, c1⟩ := BX.out W (Below.refl _ _)
  have HNIL : Hid (∀ wr, Below W.heap.size W wr → ∀ b, RS w [] b (.returned (.tuple #[.slice (some ⟨W0.heap.size, 0, none⟩) 0 0, .bool b])) wr) := fun wr h b => ⟨W0.heap.size, 0, rfl, .inl rfl, hbW.trans (h.mono hbW.size)⟩
  obtain ⟨L, hL⟩ : ∃ L, ansL es bs x key = L := ⟨_, rfl⟩
  obtain ⟨B, hBB⟩ : ∃ B, ansB es bs x key = B := ⟨_, rfl⟩
  have HL : Hid (ansL es bs x key = L) := hL
  have HBV : Hid (ansB es bs x key = B) := hBB
  rw [hL, hBB]
  clear hE hB hA hA0 hes hbs hL hBB
  go_enter Tryz.func7, Tryz.ntmps7
  go_wp2_with (go_at_call 17; fail)
  clear hW hW0
  refine hok.mono ?_
  rintro e w1 ⟨⟨ok, rfl, hoki⟩, hbw1⟩
  have HOK : Hid (okr es bs = ok) := okr_of hoki
  obtain ⟨d0, d1⟩ := BX.out w1 hbw1
  clear hok hoki c0 c1
  cases ok with
  | false =>
    obtain ⟨h1, h2⟩ := ans_bad (x := x) (es := es) (bs := bs) (key := key) (by rw [HOK.out]; rfl)
    have HF := HNIL.out w1 hbw1 false
    rw [HL.out] at h1
    rw [HBV.out] at h2
    subst h1; subst h2
    go_wp2
    go_ret2
    exact HF
  | true =>
    have hky := ky.spec_key key w1 hkey
    obtain ⟨kg, hkg⟩ : ∃ kg, ky.good key = kg := ⟨_, rfl⟩
    have HKG : Hid (ky.good key = kg) := hkg
    rw [hkg] at hky
    clear hkg
    go_wp2_with (go_at_call 32; fail)
    refine hky.mono ?_
    rintro e w2 ⟨rfl, hw2⟩
    obtain rfl := hw2
    clear hky
    cases kg with
    | false =>
      obtain ⟨h1, h2⟩ := ans_bad (x := x) (es := es) (bs := bs) (key := key) (by rw [HOK.out, HKG.out]; rfl)
      have HF := HNIL.out w1 hbw1 false
      rw [HL.out] at h1
      rw [HBV.out] at h2
      subst h1; subst h2
      go_wp2
      go_ret2
      exact HF
    | true =>
      have hgood : (okr es bs && ky.good key) = true := by rw [HOK.out, HKG.out]; rfl
      by_cases hxe : x = ⟨#[]⟩
      · obtain ⟨h1, h2⟩ := ans_self (es := es) (bs := bs) (key := key) hgood hxe
        rw [HL.out] at h1
        rw [HBV.out] at h2
        subst h1; subst h2
        subst hxe
        have HF : Hid (RS w [key] true (.returned (.tuple #[.slice (some ⟨w1.heap.size, 0, none⟩) 1 1, .bool true])) (w1.alloc (.cells #[.string key] 9))) := by
          have hn := bnew w1 #[.string key] 9
          refine ⟨w1.heap.size, 1, rfl, .inr ⟨w1.heap.size, 0, rfl, (Array.getElem?_eq_some_iff.1 hn).1, fun i e he j v hv => ?_⟩, (hbW.trans (hbw1.mono hbW.size)).alloc (hbW.trans (hbw1.mono hbW.size)).size _⟩
          match i, he, j, hv with
          | 0, he, 0, hv => cases he; cases hv; exact bcell hn rfl
          | 0, he, j + 1, hv => simp [cS] at hv
          | i + 1, he, _, _ => simp at he
        go_wp2
        go_ret2
        exact HF.out
      · have hne : (x.toList == ([] : List UInt8)) = false := emp_eq hxe
        have hkd := spec_kind es ge ce ba bs.length cb x w1 hel (HE.out.below hbw1) ea hea
        go_wp2_with (go_at_call 33; fail)
        refine hkd.mono ?_
        rintro e w3 ⟨rfl, hb3⟩
        have hbw3 : Below W.heap.size W w3 := hbw1.trans (hb3.mono hbw1.size)
        obtain ⟨e0, e1⟩ := BX.out w3 hbw3
        obtain ⟨kd, hkde⟩ : ∃ kd, kindOf es x = kd := ⟨_, rfl⟩
        rw [hkde]
        clear hkd d0 d1
        by_cases hk0 : kd < 0
        · obtain ⟨h1, h2⟩ := ans_none (es := es) (bs := bs) (key := key) hgood hxe (by rw [hkde]; exact hk0)
          rw [HL.out] at h1
          rw [HBV.out] at h2
          subst h1; subst h2
          have HF := HNIL.out w3 hbw3 false
          go_wp2
          go_ret2
          exact HF
        · obtain ⟨h1, h2⟩ := ans_some (es := es) (bs := bs) (key := key) hgood hxe (by rw [hkde]; exact hk0)
          rw [HL.out, hkde] at h1
          rw [HBV.out] at h2
          subst h2
          have HLQ : Hid (L = puts (qs kd x key bs)) := h1
          have HS0 : Hid (St W (puts (qs kd x key (bs.take 0))) (.slice (some ⟨W0.heap.size, 0, none⟩) 0 0) w3) := ⟨hbw3, W0.heap.size, 0, rfl, Nat.le_refl _, .inl rfl⟩
          clear h1 hb3 hkde hgood
          go_wp2
          go_loopw [8, 10] (fun v y wr => ∃ k : Nat, k ≤ bs.length ∧ y = .int .i64 k ∧ Hid (St W (puts (qs kd x key (bs.take k))) v wr)) (fun _ y _ => bs.length - (intOf y).toNat)
          case atStart => exact ⟨0, Nat.zero_le _, rfl, HS0⟩
          case round =>
            obtain ⟨k, hk, rfl, hst⟩ := hrel
            clear HS0 e0 e1
            obtain ⟨e0, e1⟩ := BX.out wr hst.out.bel
            by_cases hkl : k < bs.length
            · have i2 : (k : Int) < (bs.length : Int) := by omega
              have HG : Hid (bs[k]? = some bs[k]) := List.getElem?_eq_getElem hkl
              have hqb : ba = some ⟨gb, 0, none⟩ := hba.out.at (by omega)
              have hsz := HBS.out bs[k] (List.getElem_mem hkl)
              obtain ⟨⟨bx, bk, bq⟩, he⟩ : ∃ e, bs[k] = e := ⟨_, rfl⟩
              rw [he] at HG hsz
              obtain ⟨f0, f1, f2⟩ := (HB.out.below hst.out.bel).2 k _ HG.out
              have hal : Below wr.heap.size wr (wr.alloc (.cells #[.string bx, .string bk, .string bq] 45)) := (Below.refl _ _).alloc (Nat.le_refl _) _
              have hnw := bnew wr #[.string bx, .string bk, .string bq] 45
              have hnl := (Array.getElem?_eq_some_iff.1 hnw).1
              have HBX : Hid (∀ w', Below (wr.alloc (.cells #[.string bx, .string bk, .string bq] 45)).heap.size (wr.alloc (.cells #[.string bx, .string bk, .string bq] 45)) w' → w'.cell? ⟨wr.heap.size, 0, none⟩ = some (.string bx) ∧ w'.cell? ⟨wr.heap.size, 1, none⟩ = some (.string bk) ∧ w'.cell? ⟨wr.heap.size, 2, none⟩ = some (.string bq)) := fun w' h => by
                have h1 := bstay hnw h hnl
                exact ⟨bcell h1 rfl, bcell h1 rfl, bcell h1 rfl⟩
              clear he hnw hnl
              by_cases e1 : kd = 1
              · have m1 : Hid (kd = 1) := e1
                clear e1
                have q1 : (kd == (1 : Int)) = true := by simpa using m1.out
                by_cases hbx : bx = x
                · have hqx : (bx.toList == x.toList) = true := by rw [hbx]; simp
                  have HH : hit kd x key ⟨bx, bk, bq⟩ = true := by simp [hit, goes, hbx, m1.out]
                  have HQ : Hid (putT (puts (qs kd x key (bs.take k))) bq = puts (qs kd x key (bs.take (k + 1)))) := by unfold Hid; rw [qs_yes HG.out HH, puts_app]
                  have hln : (puts (qs kd x key (bs.take k))).length ≤ 1048576 := by have h1 := puts_len (qs kd x key (bs.take k)); have h2 := qs_len kd x key (bs.take k); rw [List.length_take] at h2; omega
                  obtain ⟨hbS, g, c, rfl, hle, hrow⟩ := hst.out.on hal
                  have hput := spec_put (puts (qs kd x key (bs.take k))) g c bq (wr.alloc (.cells #[.string bx, .string bk, .string bq] 45)) hln hle hrow
                  rw [HQ.out] at hput
                  clear hst HH hrow
                  try clear hbx
                  try clear hbk
                  go_wp2_with (go_at_call 35; fail)
                  refine hput.mono ?_
                  rintro e w5 ⟨g5, c5, rfl, hle5, hrow5, hb5⟩
                  have HN : Hid (St W (puts (qs kd x key (bs.take (k + 1)))) (.slice (some ⟨g5, 0, none⟩) (puts (qs kd x key (bs.take (k + 1)))).length c5) w5) := ⟨hbS.trans (hb5.mono hbS.size), g5, c5, rfl, hle5, hrow5⟩
                  clear hput hrow5
                  go_wp2
                  try rw [← hqa]
                  try rw [← hqb]
                  go_roundw
                  case rel => exact ⟨k + 1, by omega, by go_num, HN⟩
                  case measure => simp [intOf]; omega
                · have hqx : (bx.toList == x.toList) = false := by simp only [beq_eq_false_iff_ne, ne_eq]; exact fun e => hbx (of_same e)
                  have HH : hit kd x key ⟨bx, bk, bq⟩ = false := by simp [hit, hbx]
                  have HN : Hid (St W (puts (qs kd x key (bs.take (k + 1)))) u8 (wr.alloc (.cells #[.string bx, .string bk, .string bq] 45))) := by
                    unfold Hid
                    rw [qs_no HG.out HH]
                    exact hst.out.on hal
                  clear hst HH
                  try clear hbx
                  try clear hbk
                  go_wp2
                  try rw [← hqa]
                  try rw [← hqb]
                  go_roundw
                  case rel => exact ⟨k + 1, by omega, by go_num, HN⟩
                  case measure => simp [intOf]; omega
              have m1 : Hid (¬ kd = 1) := e1
              clear e1
              have q1 : (kd == (1 : Int)) = false := by simpa using m1.out
              by_cases e0 : kd = 0
              · have m0 : Hid (kd = 0) := e0
                clear e0
                have q0 : (kd == (0 : Int)) = true := by simpa using m0.out
                have q2 : (kd == (2 : Int)) = false := by rw [m0.out]; rfl
                by_cases hbk : bk = key
                · have hqk : (bk.toList == key.toList) = true := by rw [hbk]; simp
                  by_cases hbx : bx = x
                  · have hqx : (bx.toList == x.toList) = true := by rw [hbx]; simp
                    have HH : hit kd x key ⟨bx, bk, bq⟩ = true := by simp [hit, goes, hbx, hbk, m0.out]
                    have HQ : Hid (putT (puts (qs kd x key (bs.take k))) bq = puts (qs kd x key (bs.take (k + 1)))) := by unfold Hid; rw [qs_yes HG.out HH, puts_app]
                    have hln : (puts (qs kd x key (bs.take k))).length ≤ 1048576 := by have h1 := puts_len (qs kd x key (bs.take k)); have h2 := qs_len kd x key (bs.take k); rw [List.length_take] at h2; omega
                    obtain ⟨hbS, g, c, rfl, hle, hrow⟩ := hst.out.on hal
                    have hput := spec_put (puts (qs kd x key (bs.take k))) g c bq (wr.alloc (.cells #[.string bx, .string bk, .string bq] 45)) hln hle hrow
                    rw [HQ.out] at hput
                    clear hst HH hrow
                    try clear hbx
                    try clear hbk
                    go_wp2_with (go_at_call 35; fail)
                    refine hput.mono ?_
                    rintro e w5 ⟨g5, c5, rfl, hle5, hrow5, hb5⟩
                    have HN : Hid (St W (puts (qs kd x key (bs.take (k + 1)))) (.slice (some ⟨g5, 0, none⟩) (puts (qs kd x key (bs.take (k + 1)))).length c5) w5) := ⟨hbS.trans (hb5.mono hbS.size), g5, c5, rfl, hle5, hrow5⟩
                    clear hput hrow5
                    go_wp2
                    try rw [← hqa]
                    try rw [← hqb]
                    go_roundw
                    case rel => exact ⟨k + 1, by omega, by go_num, HN⟩
                    case measure => simp [intOf]; omega
                  · have hqx : (bx.toList == x.toList) = false := by simp only [beq_eq_false_iff_ne, ne_eq]; exact fun e => hbx (of_same e)
                    have HH : hit kd x key ⟨bx, bk, bq⟩ = false := by simp [hit, hbx]
                    have HN : Hid (St W (puts (qs kd x key (bs.take (k + 1)))) u8 (wr.alloc (.cells #[.string bx, .string bk, .string bq] 45))) := by
                      unfold Hid
                      rw [qs_no HG.out HH]
                      exact hst.out.on hal
                    clear hst HH
                    try clear hbx
                    try clear hbk
                    go_wp2
                    try rw [← hqa]
                    try rw [← hqb]
                    go_roundw
                    case rel => exact ⟨k + 1, by omega, by go_num, HN⟩
                    case measure => simp [intOf]; omega
                · have hqk : (bk.toList == key.toList) = false := by simp only [beq_eq_false_iff_ne, ne_eq]; exact fun e => hbk (of_same e)
                  by_cases hbx : bx = x
                  · have hqx : (bx.toList == x.toList) = true := by rw [hbx]; simp
                    have HH : hit kd x key ⟨bx, bk, bq⟩ = false := by simp [hit, goes, hbk, m0.out]
                    have HN : Hid (St W (puts (qs kd x key (bs.take (k + 1)))) u8 (wr.alloc (.cells #[.string bx, .string bk, .string bq] 45))) := by
                      unfold Hid
                      rw [qs_no HG.out HH]
                      exact hst.out.on hal
                    clear hst HH
                    try clear hbx
                    try clear hbk
                    go_wp2
                    try rw [← hqa]
                    try rw [← hqb]
                    go_roundw
                    case rel => exact ⟨k + 1, by omega, by go_num, HN⟩
                    case measure => simp [intOf]; omega
                  · have hqx : (bx.toList == x.toList) = false := by simp only [beq_eq_false_iff_ne, ne_eq]; exact fun e => hbx (of_same e)
                    have HH : hit kd x key ⟨bx, bk, bq⟩ = false := by simp [hit, hbx]
                    have HN : Hid (St W (puts (qs kd x key (bs.take (k + 1)))) u8 (wr.alloc (.cells #[.string bx, .string bk, .string bq] 45))) := by
                      unfold Hid
                      rw [qs_no HG.out HH]
                      exact hst.out.on hal
                    clear hst HH
                    try clear hbx
                    try clear hbk
                    go_wp2
                    try rw [← hqa]
                    try rw [← hqb]
                    go_roundw
                    case rel => exact ⟨k + 1, by omega, by go_num, HN⟩
                    case measure => simp [intOf]; omega
              have m0 : Hid (¬ kd = 0) := e0
              clear e0
              have q0 : (kd == (0 : Int)) = false := by simpa using m0.out
              by_cases e2 : kd = 2
              · have m2 : Hid (kd = 2) := e2
                clear e2
                have q2 : (kd == (2 : Int)) = true := by simpa using m2.out
                have htp := ti.spec_topic bk key (wr.alloc (.cells #[.string bx, .string bk, .string bq] 45)) hsz.2.1 hkey
                obtain ⟨tb, htb⟩ : ∃ tb, tp.topic bk key = tb := ⟨_, rfl⟩
                rw [htb] at htp
                go_wp2_with (go_at_call 34; fail)
                refine htp.mono ?_
                rintro e w4 ⟨rfl, hb4⟩
                obtain ⟨g0, g1, g2⟩ := HBX.out w4 hb4
                have hal4 : Below wr.heap.size wr w4 := hal.trans (hb4.mono hal.size)
                have HTB : Hid (tp.topic bk key = tb) := htb
                clear htp htb f0 f1 f2
                cases tb with
                | true =>
                  by_cases hbx : bx = x
                  · have hqx : (bx.toList == x.toList) = true := by rw [hbx]; simp
                    have HH : hit kd x key ⟨bx, bk, bq⟩ = true := by simp [hit, goes, hbx, HTB.out, m2.out]
                    have HQ : Hid (putT (puts (qs kd x key (bs.take k))) bq = puts (qs kd x key (bs.take (k + 1)))) := by unfold Hid; rw [qs_yes HG.out HH, puts_app]
                    have hln : (puts (qs kd x key (bs.take k))).length ≤ 1048576 := by have h1 := puts_len (qs kd x key (bs.take k)); have h2 := qs_len kd x key (bs.take k); rw [List.length_take] at h2; omega
                    obtain ⟨hbS, g, c, rfl, hle, hrow⟩ := hst.out.on hal4
                    have hput := spec_put (puts (qs kd x key (bs.take k))) g c bq w4 hln hle hrow
                    rw [HQ.out] at hput
                    clear hst HH hrow
                    try clear hbx
                    try clear hbk
                    go_wp2_with (go_at_call 35; fail)
                    refine hput.mono ?_
                    rintro e w5 ⟨g5, c5, rfl, hle5, hrow5, hb5⟩
                    have HN : Hid (St W (puts (qs kd x key (bs.take (k + 1)))) (.slice (some ⟨g5, 0, none⟩) (puts (qs kd x key (bs.take (k + 1)))).length c5) w5) := ⟨hbS.trans (hb5.mono hbS.size), g5, c5, rfl, hle5, hrow5⟩
                    clear hput hrow5
                    go_wp2
                    try rw [← hqa]
                    try rw [← hqb]
                    go_roundw
                    case rel => exact ⟨k + 1, by omega, by go_num, HN⟩
                    case measure => simp [intOf]; omega
                  · have hqx : (bx.toList == x.toList) = false := by simp only [beq_eq_false_iff_ne, ne_eq]; exact fun e => hbx (of_same e)
                    have HH : hit kd x key ⟨bx, bk, bq⟩ = false := by simp [hit, hbx]
                    have HN : Hid (St W (puts (qs kd x key (bs.take (k + 1)))) u8 w4) := by
                      unfold Hid
                      rw [qs_no HG.out HH]
                      exact hst.out.on hal4
                    clear hst HH
                    try clear hbx
                    try clear hbk
                    go_wp2
                    try rw [← hqa]
                    try rw [← hqb]
                    go_roundw
                    case rel => exact ⟨k + 1, by omega, by go_num, HN⟩
                    case measure => simp [intOf]; omega
                | false =>
                  by_cases hbx : bx = x
                  · have hqx : (bx.toList == x.toList) = true := by rw [hbx]; simp
                    have HH : hit kd x key ⟨bx, bk, bq⟩ = false := by simp [hit, goes, HTB.out, m2.out]
                    have HN : Hid (St W (puts (qs kd x key (bs.take (k + 1)))) u8 w4) := by
                      unfold Hid
                      rw [qs_no HG.out HH]
                      exact hst.out.on hal4
                    clear hst HH
                    try clear hbx
                    try clear hbk
                    go_wp2
                    try rw [← hqa]
                    try rw [← hqb]
                    go_roundw
                    case rel => exact ⟨k + 1, by omega, by go_num, HN⟩
                    case measure => simp [intOf]; omega
                  · have hqx : (bx.toList == x.toList) = false := by simp only [beq_eq_false_iff_ne, ne_eq]; exact fun e => hbx (of_same e)
                    have HH : hit kd x key ⟨bx, bk, bq⟩ = false := by simp [hit, hbx]
                    have HN : Hid (St W (puts (qs kd x key (bs.take (k + 1)))) u8 w4) := by
                      unfold Hid
                      rw [qs_no HG.out HH]
                      exact hst.out.on hal4
                    clear hst HH
                    try clear hbx
                    try clear hbk
                    go_wp2
                    try rw [← hqa]
                    try rw [← hqb]
                    go_roundw
                    case rel => exact ⟨k + 1, by omega, by go_num, HN⟩
                    case measure => simp [intOf]; omega
              have m2 : Hid (¬ kd = 2) := e2
              clear e2
              have q2 : (kd == (2 : Int)) = false := by simpa using m2.out
              by_cases hbx : bx = x
              · have hqx : (bx.toList == x.toList) = true := by rw [hbx]; simp
                have HH : hit kd x key ⟨bx, bk, bq⟩ = false := by simp [hit, goes, m0.out, m1.out, m2.out]
                have HN : Hid (St W (puts (qs kd x key (bs.take (k + 1)))) u8 (wr.alloc (.cells #[.string bx, .string bk, .string bq] 45))) := by
                  unfold Hid
                  rw [qs_no HG.out HH]
                  exact hst.out.on hal
                clear hst HH
                try clear hbx
                try clear hbk
                go_wp2
                try rw [← hqa]
                try rw [← hqb]
                go_roundw
                case rel => exact ⟨k + 1, by omega, by go_num, HN⟩
                case measure => simp [intOf]; omega
              · have hqx : (bx.toList == x.toList) = false := by simp only [beq_eq_false_iff_ne, ne_eq]; exact fun e => hbx (of_same e)
                have HH : hit kd x key ⟨bx, bk, bq⟩ = false := by simp [hit, hbx]
                have HN : Hid (St W (puts (qs kd x key (bs.take (k + 1)))) u8 (wr.alloc (.cells #[.string bx, .string bk, .string bq] 45))) := by
                  unfold Hid
                  rw [qs_no HG.out HH]
                  exact hst.out.on hal
                clear hst HH
                try clear hbx
                try clear hbk
                go_wp2
                try rw [← hqa]
                try rw [← hqb]
                go_roundw
                case rel => exact ⟨k + 1, by omega, by go_num, HN⟩
                case measure => simp [intOf]; omega
            · obtain rfl : k = bs.length := by omega
              obtain ⟨h1, g, c, rfl, hle, hrow⟩ := hst.out
              rw [List.take_length, ← HLQ.out] at hrow ⊢
              have HF : Hid (RS w L true (.returned (.tuple #[.slice (some ⟨g, 0, none⟩) L.length c, .bool true])) wr) := ⟨g, c, rfl, hrow, hbW.trans (h1.mono hbW.size)⟩
              clear hst hrow
              go_wp2
              go_ret2
              exact HF.out
end Go.Proofs.YtnooibeohdfcmaaGreatDoor.rsr
