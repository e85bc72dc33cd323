/- The specification's DrawLife: batches, when a store is made safe, how much is kept, and steps. -/
import Derived.Test.YtoemkbooomgieaaGreatDoorDw25
import Derived.Test.YtoemkbooomgieaaGreatDoorDw22
import Derived.Test.YtoemkbooomgieaaGreatDoorDw15
import Derived.Test.YtoemkbooomgieaaGreatDoorDw01

/- The specification's draw of a text: some text of the length that was asked for. -/
namespace Go.Proofs.YtoemkbooomgieaaGreatDoor.dw
open Go.ChangeShapes Go.WideShapes Go.ChangeAt Go.RowKit

theorem infoByte : (Tryz.prog.info? 5).map (fun i => (i.zero, i.size, i.bytes)) = some (some (.int .u8 0), 1, 1) := by kernel_rfl

theorem owns_on {w wr w1 : World} {p k : Nat} {v : Value} {xs : List Value} (h : wr.ownsRow w.heap.size 5 1 v k xs) (hb : On p wr w1) (hp : p < w.heap.size) : w1.ownsRow w.heap.size 5 1 v k xs := by
  refine h.kept hb ?_
  cases hv : v.ownBlock with
  | none => exact .inl rfl
  | some g =>
    right
    have := (h.lt g hv).1
    simp
    omega

set_option maxRecDepth 100000 in
theorem draw_bytes (p : Nat) (a : Option Addr) (len cap n : Nat) (w : World) (hn : n ≤ 10000) (hc : Cur w p a len cap) :
    Calls Tryz.prog 33 #[.pointer (some ⟨p, 0, none⟩), .int .i64 n] w fun e w' => (∃ s : ByteArray, s.size = n ∧ e = .returned (.string s)) ∧ Cur w' p a len cap ∧ On p w w' := by
  obtain ⟨i0, hi, hz0, hz1, hz2⟩ := info_parts infoByte
  have hp := hc.lt
  have HC : Hid (Cur w p a len cap) := hc
  clear hc
  go_enter Tryz.func33, Tryz.ntmps33
  go_wp2
  go_loopw [5, 6] (fun v y wr => ∃ (k : Nat) (zs : List Int), k ≤ n ∧ zs.length = k ∧ y = .int .i64 k ∧ wr.ownsRow w.heap.size 5 1 v k (zs.map (Value.int .u8)) ∧ Hid (Cur wr p a len cap) ∧ On p w wr ∧ w.heap.size ≤ wr.heap.size) (fun _ y _ => n - (intOf y).toNat)
  case atStart => exact ⟨0, [], Nat.zero_le _, rfl, rfl, World.ownsRow_made w _ 0 (Nat.le_refl _) (Nat.zero_le _) rfl, HC.out.alloc _, (On.refl _ _).alloc _, by show w.heap.size ≤ (w.heap.push _).size; simp⟩
  case round =>
    obtain ⟨k, zs, hk, hzl, rfl, hown, hcur, hon, hsz⟩ := hrel
    by_cases hkn : k < n
    · have h1 := draw_below p a len cap 256 wr (by omega) hcur.out
      have HO : Hid (wr.ownsRow w.heap.size 5 1 u5 k (zs.map (Value.int .u8))) := hown
      clear hown
      have hpw := hcur.out.lt
      go_wp2_with (first | (go_at_call 18; refine h1.mono ?_; rintro e w1 ⟨⟨x, hx, rfl⟩, hc1, hb1⟩; have hown1 := owns_on HO.out hb1 hp) | (at_builtin; refine wpList_append_own _ rfl _ _ 22 rfl w.heap.size 5 i0 (.int .u8 0) 1 1 Tryz.underlying22 hi hz0 hz1 hz2 rfl (by decide) _ _ _ rfl (hown1.alloc _) ⟨w1.heap.size, 0, none⟩ 1 1 [.int .u8 x] rfl rfl ?c1 ?c2 ?c3 ?c4 ?c5 ?_))
      case c1 => exact cell_one_new _ _ _
      case c2 => intro u hu; simp at hu; subst hu; rfl
      case c3 => unfold maxLen; omega
      case c4 => omega
      case c5 => have := hb1.size; simp; omega
      intro v' w2 hown2 hgrow _
      have hsz1 := hb1.size
      have hrow : ∀ k', u5.ownBlock = some k' → w.heap.size ≤ k' := fun k' hk' => (hown1.lt k' hk').1
      have hon2 : On p w w2 := ((hon.trans hb1).alloc _).grown hgrow hrow
      have hcur2 : Hid (Cur w2 p a len cap) := (hc1.alloc (.cells #[.int .u8 x] 5)).grown hgrow (fun k' hk' => by have := hrow k' hk'; omega)
      have hown3 : w2.ownsRow w.heap.size 5 1 v' (k + 1) ((zs ++ [(x : Int)]).map (Value.int .u8)) := by simpa using hown2
      have hsz2 : w.heap.size ≤ w2.heap.size := hon2.size
      clear hown1 hown2 hgrow hb1 hc1 hon hcur HO hrow
      go_wp2
      go_roundw
      case rel => exact ⟨k + 1, zs ++ [(x : Int)], by omega, by simp [hzl], by go_num, hown3, hcur2, hon2, hsz2⟩
      case measure => simp [intOf]; omega
    · obtain rfl : k = n := by omega
      obtain ⟨_, hown⟩ := hown
      rcases hown with ⟨rfl, h0⟩ | ⟨g, capx, cur, rfl, hb, hg, h1, h2, h3, h4⟩
      · have hcv := run_convert_bytes_nil (P := Tryz.prog) wr 22 5 Tryz.underlying22 Tryz.underlying5 0 0 9 Tryz.underlying9
        go_wp2
        go_ret
        exact ⟨⟨_, by rw [h0]; rfl, rfl⟩, hcur.out, hon⟩
      · have hcell : ∀ i, i < k → wr.cell? ⟨g, 0 + i, none⟩ = some (.int .u8 (zs.getD i 0)) := fun i hi' => by
          have hiz : i < zs.length := by omega
          have h5 : cur.toList[i]? = some (.int .u8 zs[i]) := by
            have h6 := congrArg (fun x => x[i]?) h4
            simp only [Nat.mul_one, List.getElem?_take_of_lt hi', List.getElem?_map, List.getElem?_eq_getElem hiz, Option.map_some] at h6
            exact h6
          have h7 : cur[i]? = some (.int .u8 zs[i]) := by rw [← Array.getElem?_toList]; exact h5
          simp [World.cell?, hg, h7, List.getD, List.getElem?_eq_getElem hiz]
        have hcv := run_convert_bytes_arg (P := Tryz.prog) wr 22 5 Tryz.underlying22 Tryz.underlying5 g 0 k capx zs hzl hcell 9 Tryz.underlying9
        clear hcell h4 hg
        go_wp2
        go_ret
        exact ⟨⟨strOfNums zs, by rw [strOfNums_size, hzl], rfl⟩, hcur.out, hon⟩
end Go.Proofs.YtoemkbooomgieaaGreatDoor.dw

/- The specification's draws of a batch and of a log: how great they are. -/
namespace Go.Proofs.YtoemkbooomgieaaGreatDoor.dba
open Go.ChangeShapes Go.WideShapes Go.ChangeAt Go.RowKit Go.Proofs.YtoemkbooomgieaaGreatDoor.fl Go.Proofs.YtoemkbooomgieaaGreatDoor.dw
set_option linter.unusedVariables false

def keys5 : List ByteArray := [⟨#[97]⟩, ⟨#[98]⟩, ⟨#[99]⟩, ⟨#[100]⟩, ⟨#[97, 97]⟩]
theorem keys5_in : ∀ z ∈ keys5, z.size ≤ 2 := by decide
def ints3 : List Int := [0, 100, 101]
theorem ints3_in : ∀ z ∈ ints3, 0 ≤ z ∧ z ≤ 101 := by decide
/-- a small pair -/
def Sml (e : flP.Pr) : Prop := e.k.size ≤ 101 ∧ e.v.size ≤ 3
structure Bt (w W : World) (v : Value) (l : List flP.Pr) : Prop where
  row : W.ownsRow w.heap.size 61 3 v l.length (l.flatMap flP.c)
  small : ∀ e ∈ l, Sml e
theorem owns_on {w wr w1 : World} {p k m : Nat} {T : TypeId} {v : Value} {xs : List Value} (h : wr.ownsRow w.heap.size T m v k xs) (hb : On p wr w1) (hp : p < w.heap.size) : w1.ownsRow w.heap.size T m v k xs := by
  refine h.kept hb ?_
  cases hv : v.ownBlock with
  | none => exact .inl rfl
  | some g =>
    right
    have := (h.lt g hv).1
    intro e
    have := Option.some.inj e
    omega
theorem Bt.on {w wr w1 : World} {p : Nat} {v : Value} {l : List flP.Pr} (h : Bt w wr v l) (hb : On p wr w1) (hp : p < w.heap.size) : Bt w w1 v l := ⟨owns_on h.row hb hp, h.small⟩
theorem Bt.alloc {w wr : World} {v : Value} {l : List flP.Pr} (h : Bt w wr v l) (o : Obj) : Bt w (wr.alloc o) v l := ⟨h.row.alloc o, h.small⟩
theorem bt_0 (w : World) : Bt w (w.alloc (.cells #[] 61)) (.slice (some ⟨w.heap.size, 0, none⟩) 0 0) [] := ⟨World.ownsRow_made w #[] 0 (Nat.le_refl _) (by unfold maxLen; omega) (by simp), fun e he => by cases he⟩
theorem Bt.app {w X : World} {v : Value} {l : List flP.Pr} {k s : ByteArray} {b : Bool} {g : Nat} (h : Bt w X v l) (hg : X.heap[g]? = some (.cells #[.string k, .string s, .bool b] 61 (0, 0))) (hl : l.length ≤ 100) (hs : w.heap.size ≤ X.heap.size) (hm : Sml ⟨k, s, b⟩) (t : TypeId) :
    ∃ v' Y, (Builtin.append_ #[28, 28] t #[v, .slice (some ⟨g, 0, none⟩) 1 1]).run Tryz.prog X = .ok v' Y ∧ Bt w Y v' (l ++ [⟨k, s, b⟩]) ∧ X.grownBy Y v.ownBlock ∧ (∀ z, v.ownBlock = some z → w.heap.size ≤ z) := by
  obtain ⟨i0, hi, hz0, hz1, hz2⟩ := gbs.infoP
  obtain ⟨v', Y, hr, ho, hgr, _, _⟩ := run_append_own_at (P := Tryz.prog) X w.heap.size 28 t 61 i0 (.agg #[.string ByteArray.empty, .string ByteArray.empty, .bool false]) 3 40 Tryz.underlying28 hi hz0 hz1 hz2 rfl (by decide) v l.length (l.flatMap flP.c) h.row ⟨g, 0, none⟩ 1 1 [.string k, .string s, .bool b] rfl (fun j u hu => by rw [gbs.cpadd]; exact bcell hg (by simpa using hu)) (by intro u hu; simp at hu; rcases hu with rfl | rfl | rfl <;> rfl) (by unfold maxLen; omega) (by omega) hs
  refine ⟨v', Y, hr, ⟨?_, fun e he => ?_⟩, hgr, fun z hz => (h.row.lt z hz).1⟩
  · rw [List.length_append, List.flatMap_append]
    simpa [flP.c] using ho
  · rcases List.mem_append.1 he with he | he
    · exact h.small e he
    · rw [List.mem_singleton.1 he]; exact hm

theorem Bt.set {w W : World} {v u : Value} {l : List flP.Pr} {b o : Nat} (h : Bt w W v l) (hb : ∀ z, v.ownBlock = some z → z ≠ b) : Bt w (W.setCell ⟨b, o, none⟩ u) v l := by
  refine ⟨h.row.kept (row := some b) ⟨rfl, rfl, rfl, by simp, fun k hk hne => Below.heap_setCell _ _ _ _ (fun e => hne (by rw [e]))⟩ ?_, h.small⟩
  cases hv : v.ownBlock with
  | none => exact .inl rfl
  | some g => exact .inr (fun e => hb g hv (Option.some.inj e))
theorem cur_set {W : World} {p b o : Nat} {a : Option Addr} {len cap : Nat} {u : Value} (h : Cur W p a len cap) (hb : p < b) : Cur (W.setCell ⟨b, o, none⟩ u) p a len cap :=
  h.grown (row := some b) ⟨rfl, rfl, rfl, by simp, fun k hk hne => Below.heap_setCell _ _ _ _ (fun e => hne (by rw [e]))⟩ (fun k hk => by have := Option.some.inj hk; omega)
theorem on_set {w W : World} {p b o : Nat} {u : Value} (h : On p w W) (hb : w.heap.size ≤ b) : On p w (W.setCell ⟨b, o, none⟩ u) :=
  h.grown (row := some b) ⟨rfl, rfl, rfl, by simp, fun k hk hne => Below.heap_setCell _ _ _ _ (fun e => hne (by rw [e]))⟩ (fun k hk => by have := Option.some.inj hk; omega)
theorem on_block {W W' : World} {p b : Nat} {o : Obj} (h : On p W W') (hb : W.heap[b]? = some o) (hne : b ≠ p) : W'.heap[b]? = some o := (h.block b (Array.getElem?_eq_some_iff.1 hb).1 (fun e => hne (Option.some.inj e))).trans hb
set_option maxRecDepth 100000 in
set_option maxHeartbeats 4000000 in
theorem draw_batch (p : Nat) (a : Option Addr) (len cap : Nat) (w : World) (hc : Cur w p a len cap) :
    Calls Tryz.prog 17 #[.pointer (some ⟨p, 0, none⟩)] w fun e w' => (∃ (l : List flP.Pr) (v : Value), e = .returned v ∧ l.length ≤ 61 ∧ Bt w w' v l) ∧ Cur w' p a len cap ∧ On p w w' := by
  have hp := hc.lt
  have h1 := draw_below p a len cap 5 _ (by omega) (hc.alloc (.cells #[] 61))
  have HB0 : Hid (Bt w (w.alloc (.cells #[] 61)) (.slice (some ⟨w.heap.size, 0, none⟩) 0 0) []) := bt_0 w
  clear hc
  go_enter Tryz.func17, Tryz.ntmps17
  go_wp2_with (go_at_call 18; fail)
  refine h1.mono ?_
  rintro e w1 ⟨⟨n, hn, rfl⟩, hc1, hb1⟩
  have hon : On p w w1 := ((On.refl p w).alloc _).trans hb1
  have HC1 : Hid (Cur w1 p a len cap) := hc1
  have HB1 : Hid (Bt w w1 (.slice (some ⟨w.heap.size, 0, none⟩) 0 0) []) := HB0.out.on hb1 hp
  clear h1 hc1 hb1 HB0
  go_wp2
  go_loopw [3, 5] (fun y x wr => ∃ (j : Nat) (l : List flP.Pr), j ≤ n ∧ x = .int .i64 j ∧ l.length = j ∧ Hid (Bt w wr y l) ∧ Hid (Cur wr p a len cap) ∧ On p w wr) (fun _ x _ => n - (intOf x).toNat)
  case atStart => exact ⟨0, [], Nat.zero_le _, rfl, rfl, HB1, HC1, hon⟩
  case round =>
    obtain ⟨j, l, hj, rfl, hl, hbt, hcur, honr⟩ := hrel
    have hpr := hcur.out.lt
    have hsz := honr.size
    by_cases hjn : j < n
    · have i2 : (j : Int) < (n : Int) := by omega
      have g1 := draw_pick p a len cap wr.heap.size 5 keys5 _ (by omega) (by omega) (at_texts wr keys5 9) (hcur.out.alloc _)
      go_wp2_with (go_at_call 31; fail)
      refine g1.mono ?_
      rintro e x1 ⟨⟨ky, hky, rfl⟩, hd1, hf1⟩
      have g2 := draw_once p a len cap 4 x1 (by omega) hd1
      have hk2 := keys5_in ky hky
      have hon1 : On p w x1 := (honr.alloc _).trans hf1
      have HB1' : Hid (Bt w x1 u3 l) := (hbt.out.alloc _).on hf1 hp
      clear g1 hd1 hf1 hcur hbt honr hky
      go_wp2_with (go_at_call 32; fail)
      refine g2.mono ?_
      rintro e x2 ⟨⟨gn, rfl⟩, hd2, hf2⟩
      have hon2 : On p w x2 := hon1.trans hf2
      have HB2 : Hid (Bt w x2 u3 l) := HB1'.out.on hf2 hp
      have HD2 : Hid (Cur x2 p a len cap) := hd2
      have hs2 := hon2.size
      have hlt2 := HD2.out.lt
      clear g2 hd2 hf2 HB1' hon1
      cases gn with
      | true =>
        obtain ⟨v', Y, hr, hbY, hgr, hlo⟩ := Bt.app (k := ky) (s := ⟨#[]⟩) (b := true) ((HB2.out.alloc (.cells #[.string ky, .string ⟨#[]⟩, .bool true] 61)).alloc (.cells #[.string ky, .string ⟨#[]⟩, .bool true] 61)) (bnew (x2.alloc (.cells #[.string ky, .string ⟨#[]⟩, .bool true] 61)) _ _) (by omega) (by simp; omega) ⟨by show (ky).size ≤ 101; omega, by show (⟨#[]⟩ : ByteArray).size ≤ 3; decide⟩ 28
        have HBY : Hid (Bt w Y v' (l ++ [⟨ky, ⟨#[]⟩, true⟩])) := hbY
        have HCY : Hid (Cur Y p a len cap) := ((HD2.out.alloc (.cells #[.string ky, .string ⟨#[]⟩, .bool true] 61)).alloc (.cells #[.string ky, .string ⟨#[]⟩, .bool true] 61)).grown hgr (fun z hz => by have := hlo z hz; omega)
        have hoY : On p w Y := ((hon2.alloc (.cells #[.string ky, .string ⟨#[]⟩, .bool true] 61)).alloc (.cells #[.string ky, .string ⟨#[]⟩, .bool true] 61)).grown hgr hlo
        rw [World.size_alloc] at hr
        clear hbY hlo
        go_wp2_with (at_builtin; refine cpr.wpList_append_run rfl _ _ _ _ rfl _ _ _ rfl rfl hr ?_)
        clear hr hgr
        go_wp2
        go_roundw
        case rel => exact ⟨j + 1, l ++ [⟨ky, ⟨#[]⟩, true⟩], by omega, by go_num, by simp [hl], HBY, HCY, hoY⟩
        case measure => simp [intOf]; omega
      | false =>
        have g3 := draw_below p a len cap 4 _ (by omega) (HD2.out.alloc (.cells #[.string ky, .string ⟨#[]⟩, .bool false] 61))
        have hbx := bnew x2 #[.string ky, .string ⟨#[]⟩, .bool false] 61
        go_wp2_with (go_at_call 18; fail)
        refine g3.mono ?_
        rintro e x3 ⟨⟨m, hm, rfl⟩, hd3, hf3⟩
        have g4 := draw_bytes p a len cap m x3 (by omega) hd3
        clear g3
        go_wp2_with (go_at_call 33; fail)
        refine g4.mono ?_
        rintro e x4 ⟨⟨sv, hsv, rfl⟩, hd4, hf4⟩
        have hb4 : x4.heap[x2.heap.size]? = some (.cells #[.string ky, .string ⟨#[]⟩, .bool false] 61 (0, 0)) := on_block hf4 (on_block hf3 hbx (by omega)) (by omega)
        have hb5 : (x4.setCell ⟨x2.heap.size, 1, none⟩ (.string sv)).heap[x2.heap.size]? = some (.cells #[.string ky, .string sv, .bool false] 61 (0, 0)) := bset hb4 1 (.string sv)
        have HB5 : Hid (Bt w (x4.setCell ⟨x2.heap.size, 1, none⟩ (.string sv)) u3 l) := ((((HB2.out.alloc _).on hf3 hp).on hf4 hp)).set (fun z hz => by have := (HB2.out.row.lt z hz).2; omega)
        have HD5 : Hid (Cur (x4.setCell ⟨x2.heap.size, 1, none⟩ (.string sv)) p a len cap) := cur_set hd4 (by omega)
        have hon5 : On p w (x4.setCell ⟨x2.heap.size, 1, none⟩ (.string sv)) := on_set (((hon2.alloc _).trans hf3).trans hf4) (by omega)
        have q0 : x4.cell? ⟨x2.heap.size, 1, none⟩ = some (.string ⟨#[]⟩) := bcell hb4 rfl
        have q1 := bfree hb4 1
        have hs5 := hon5.size
        obtain ⟨X5, hX5⟩ : ∃ X5, x4.setCell ⟨x2.heap.size, 1, none⟩ (.string sv) = X5 := ⟨_, rfl⟩
        rw [hX5] at hb5 HB5 HD5 hon5 hs5
        have r0 : X5.cell? ⟨x2.heap.size, 0, none⟩ = some (.string ky) := bcell hb5 rfl
        have r1 : X5.cell? ⟨x2.heap.size, 1, none⟩ = some (.string sv) := bcell hb5 rfl
        have r2 : X5.cell? ⟨x2.heap.size, 2, none⟩ = some (.bool false) := bcell hb5 rfl
        obtain ⟨v', Y, hr, hbY, hgr, hlo⟩ := Bt.app (k := ky) (s := sv) (b := false) (HB5.out.alloc (.cells #[.string ky, .string sv, .bool false] 61)) (bnew X5 _ _) (by omega) (by simp; omega) ⟨by show (ky).size ≤ 101; omega, by show (sv).size ≤ 3; omega⟩ 28
        have HBY : Hid (Bt w Y v' (l ++ [⟨ky, sv, false⟩])) := hbY
        have HCY : Hid (Cur Y p a len cap) := (HD5.out.alloc (.cells #[.string ky, .string sv, .bool false] 61)).grown hgr (fun z hz => by have := hlo z hz; omega)
        have hoY : On p w Y := (hon5.alloc (.cells #[.string ky, .string sv, .bool false] 61)).grown hgr hlo
        clear hbY hlo g4 hd3 hf3 hd4 hf4 hbx hb4
        go_wp2_with (at_builtin; refine cpr.wpList_append_run rfl _ _ _ _ rfl _ _ _ rfl rfl hr ?_)
        clear hr hgr hX5
        go_wp2
        go_roundw
        case rel => exact ⟨j + 1, l ++ [⟨ky, sv, false⟩], by omega, by go_num, by simp [hl], HBY, HCY, hoY⟩
        case measure => simp [intOf]; omega
    · obtain rfl : j = n := by omega
      have i2 : ¬ (l.length : Int) < (l.length : Int) := by omega
      have g2 := draw_below p a len cap 30 wr (by omega) hcur.out
      have HBR : Hid (Bt w wr u3 l) := hbt
      clear hcur hbt
      go_wp2_with (go_at_call 18; fail)
      refine g2.mono ?_
      rintro e x1 ⟨⟨c, hcc, rfl⟩, hd1, hf1⟩
      have hon1 := honr.trans hf1
      have HD1 : Hid (Cur x1 p a len cap) := hd1
      have HB : Hid (Bt w x1 u3 l) := HBR.out.on hf1 hp
      have hs1 := hon1.size
      have hlt1 := HD1.out.lt
      clear g2 hd1 hf1 HBR honr
      by_cases hc0 : c = 0
      · subst hc0
        have g3 := draw_pick_int p a len cap x1.heap.size 3 ints3 _ (by omega) (by omega) (at_list x1 ints3 3) (HD1.out.alloc _)
        go_wp2_with (go_at_call 34; fail)
        refine g3.mono ?_
        rintro e x2 ⟨⟨z, hz, rfl⟩, hd2, hf2⟩
        have hz3 := ints3_in z hz
        obtain ⟨zn, rfl⟩ : ∃ zn : Nat, z = (zn : Int) := ⟨z.toNat, by omega⟩
        have g4 := draw_bytes p a len cap zn x2 (by omega) hd2
        clear g3 hz
        go_wp2_with (go_at_call 33; fail)
        refine g4.mono ?_
        rintro e x3 ⟨⟨ky, hky, rfl⟩, hd3, hf3⟩
        have HB3 : Hid (Bt w x3 u3 l) := ((HB.out.alloc _).on hf2 hp).on hf3 hp
        have HD3 : Hid (Cur x3 p a len cap) := hd3
        have hon3 : On p w x3 := ((hon1.alloc _).trans hf2).trans hf3
        have hs3 := hon3.size
        obtain ⟨v', Y, hr, hbY, hgr, hlo⟩ := Bt.app (k := ky) (s := ⟨#[]⟩) (b := false) (HB3.out.alloc (.cells #[.string ky, .string ⟨#[]⟩, .bool false] 61)) (bnew x3 _ _) (by omega) (by simp; omega) ⟨by show (ky).size ≤ 101; omega, by show (⟨#[]⟩ : ByteArray).size ≤ 3; decide⟩ 28
        have HBY : Hid (Bt w Y v' (l ++ [⟨ky, ⟨#[]⟩, false⟩])) := hbY
        have HCY : Hid (Cur Y p a len cap) := (HD3.out.alloc (.cells #[.string ky, .string ⟨#[]⟩, .bool false] 61)).grown hgr (fun z hz => by have := hlo z hz; omega)
        have hoY : On p w Y := (hon3.alloc (.cells #[.string ky, .string ⟨#[]⟩, .bool false] 61)).grown hgr hlo
        clear hbY hlo g4 hd2 hf2 hd3 hf3
        go_wp2_with (at_builtin; refine cpr.wpList_append_run rfl _ _ _ _ rfl _ _ _ rfl rfl hr ?_)
        clear hr hgr
        go_wp2
        go_ret
        exact ⟨⟨_, _, rfl, by simp; omega, HBY.out⟩, HCY.out, hoY⟩
      · by_cases hc1 : c = 1
        · subst hc1
          go_wp2
          go_loopw [3] (fun y wq => ∃ (m : List flP.Pr) (ya : Option Addr) (yc : Nat), y = .slice ya m.length yc ∧ m.length ≤ 61 ∧ Hid (Bt w wq y m) ∧ Hid (Cur wq p a len cap) ∧ On p w wq) (fun y _ => 70 - (match y with | .slice _ k _ => k | _ => 0))
          case atStart =>
            obtain ⟨ya, yc, hy, _⟩ := own_row flP.c_len HB.out.row
            subst hy
            exact ⟨l, ya, yc, rfl, by omega, HB, HD1, hon1⟩
          case round =>
            obtain ⟨m, ya, yc, rfl, hm, hbt2, hcur2, honr2⟩ := hrel
            have g3 := draw_below p a len cap 2 wr (by omega) hcur2.out
            clear hcur2
            go_wp2_with (go_at_call 18; fail)
            refine g3.mono ?_
            rintro e x2 ⟨⟨d, hd, rfl⟩, hd2, hf2⟩
            have HD2 : Hid (Cur x2 p a len cap) := hd2
            have HB2 : Hid (Bt w x2 (.slice ya m.length yc) m) := hbt2.out.on hf2 hp
            have hon2 := honr2.trans hf2
            have hs2 := hon2.size
            clear g3 hd2 hf2 hbt2 honr2
            by_cases hlt : m.length < 60 + d
            · have hlt2 : (m.length : Int) < 60 + (d : Int) := by omega
              obtain ⟨v', Y, hr, hbY, hgr, hlo⟩ := Bt.app (k := ⟨#[107]⟩) (s := ⟨#[118]⟩) (b := false) (HB2.out.alloc (.cells #[.string ⟨#[107]⟩, .string ⟨#[118]⟩, .bool false] 61)) (bnew x2 _ _) (by omega) (by simp; omega) ⟨by show (⟨#[107]⟩ : ByteArray).size ≤ 101; decide, by show (⟨#[118]⟩ : ByteArray).size ≤ 3; decide⟩ 28
              have HBY : Hid (Bt w Y v' (m ++ [⟨⟨#[107]⟩, ⟨#[118]⟩, false⟩])) := hbY
              have HCY : Hid (Cur Y p a len cap) := (HD2.out.alloc (.cells #[.string ⟨#[107]⟩, .string ⟨#[118]⟩, .bool false] 61)).grown hgr (fun z hz => by have := hlo z hz; omega)
              have hoY : On p w Y := (hon2.alloc (.cells #[.string ⟨#[107]⟩, .string ⟨#[118]⟩, .bool false] 61)).grown hgr hlo
              clear hbY hlo
              go_wp2_with (at_builtin; refine cpr.wpList_append_run rfl _ _ _ _ rfl _ _ _ rfl rfl hr ?_)
              clear hr hgr
              obtain ⟨yb, yd, hyy, _⟩ := own_row flP.c_len HBY.out.row
              subst hyy
              go_wp2
              go_roundw
              case rel => exact ⟨m ++ [⟨⟨#[107]⟩, ⟨#[118]⟩, false⟩], yb, yd, rfl, by simp; omega, HBY, HCY, hoY⟩
              case measure => simp; omega
            · have hlt2 : ¬ (m.length : Int) < 60 + (d : Int) := by omega
              go_wp2
              go_ret
              exact ⟨⟨_, _, rfl, by omega, HB2.out⟩, HD2.out, hon2⟩
        · by_cases hc2 : c = 2
          · subst hc2
            obtain ⟨v', Y, hr, hbY, hgr, hlo⟩ := Bt.app (k := ⟨#[103]⟩) (s := ⟨#[118]⟩) (b := true) (HB.out.alloc (.cells #[.string ⟨#[103]⟩, .string ⟨#[118]⟩, .bool true] 61)) (bnew x1 _ _) (by omega) (by simp; omega) ⟨by show (⟨#[103]⟩ : ByteArray).size ≤ 101; decide, by show (⟨#[118]⟩ : ByteArray).size ≤ 3; decide⟩ 28
            have HBY : Hid (Bt w Y v' (l ++ [⟨⟨#[103]⟩, ⟨#[118]⟩, true⟩])) := hbY
            have HCY : Hid (Cur Y p a len cap) := (HD1.out.alloc (.cells #[.string ⟨#[103]⟩, .string ⟨#[118]⟩, .bool true] 61)).grown hgr (fun z hz => by have := hlo z hz; omega)
            have hoY : On p w Y := (hon1.alloc (.cells #[.string ⟨#[103]⟩, .string ⟨#[118]⟩, .bool true] 61)).grown hgr hlo
            clear hbY hlo
            go_wp2_with (at_builtin; refine cpr.wpList_append_run rfl _ _ _ _ rfl _ _ _ rfl rfl hr ?_)
            clear hr hgr
            go_wp2
            go_ret
            exact ⟨⟨_, _, rfl, by simp; omega, HBY.out⟩, HCY.out, hoY⟩
          · have e0 : ((c : Int) == 0) = false := by simp only [beq_eq_false_iff_ne]; omega
            have e1 : ((c : Int) == 1) = false := by simp only [beq_eq_false_iff_ne]; omega
            have e2 : ((c : Int) == 2) = false := by simp only [beq_eq_false_iff_ne]; omega
            go_wp2
            go_ret
            exact ⟨⟨_, _, rfl, by omega, HB.out⟩, HD1.out, hon1⟩
end Go.Proofs.YtoemkbooomgieaaGreatDoor.dba

/- The specification's l01Size: how great what is drawn may become. -/
namespace Go.Proofs.YtoemkbooomgieaaGreatDoor.dsz
open Go.ChangeShapes Go.WideShapes Go.ChangeAt Go.RowKit Go.Proofs.YtoemkbooomgieaaGreatDoor.dw
set_option linter.unusedVariables false

set_option maxHeartbeats 1000000 in
theorem draw_size (a : Option Addr) (len cap : Nat) (w : World) (hlen : len ≤ 1048576) :
    Calls Tryz.prog 16 #[.slice a len cap, .int .i64 14] w fun e w' => (∃ z : Nat, z ≤ 14 ∧ e = .returned (.int .i64 z)) ∧ Below w.heap.size w w' := by
  have hq : Int.tdiv (len : Int) 20 = ((len / 20 : Nat) : Int) := by rw [Int.tdiv_eq_ediv_of_nonneg (by omega)]; omega
  have hw : IntKind.i64.wrap (2 + ((len / 20 : Nat) : Int)) = ((2 + len / 20 : Nat) : Int) := by rw [IntKind.wrap_i64]; omega
  have hw0 : IntKind.i64.wrap ((len / 20 : Nat) : Int) = ((len / 20 : Nat) : Int) := by rw [IntKind.wrap_i64]; omega
  by_cases h : 14 < 2 + len / 20
  · have h1 : (14 : Int) < ((2 + len / 20 : Nat) : Int) := by omega
    go_enter Tryz.func16, Tryz.ntmps16
    go_wp2
    go_ret
    exact ⟨⟨14, by omega, rfl⟩, Below.refl _ _⟩
  · have h1 : ¬ (14 : Int) < ((2 + len / 20 : Nat) : Int) := by omega
    go_enter Tryz.func16, Tryz.ntmps16
    go_wp2
    go_ret
    exact ⟨⟨2 + len / 20, by omega, rfl⟩, Below.refl _ _⟩
end Go.Proofs.YtoemkbooomgieaaGreatDoor.dsz

/- What DrawLife draws, as it lies: batches and numbers, in rows of their own. -/
namespace Go.Proofs.YtoemkbooomgieaaGreatDoor.dlf
open Go.ChangeShapes Go.WideShapes Go.ChangeAt Go.RowKit Go.Proofs.YtoemkbooomgieaaGreatDoor.fl Go.Proofs.YtoemkbooomgieaaGreatDoor.dw Go.Proofs.YtoemkbooomgieaaGreatDoor.rn Go.Proofs.YtoemkbooomgieaaGreatDoor.dba
set_option linter.unusedVariables false

theorem info1 : (Tryz.prog.info? 3).map (fun i => (i.zero, i.size, i.bytes)) = some (some (.int .i64 0), 1, 8) := by kernel_rfl
theorem infoI : ∃ i0, Tryz.prog.info? 3 = some i0 ∧ i0.zero = some (.int .i64 0) ∧ i0.size = 1 ∧ i0.bytes = 8 := by
  have h := info1
  cases hh : Tryz.prog.info? 3 with
  | none => rw [hh] at h; cases h
  | some i => rw [hh] at h; simp at h; exact ⟨i, rfl, h.1, h.2.1, h.2.2⟩
theorem own_apart {W : World} {B B' n n' s s' : Nat} {U V : TypeId} {v v' : Value} {xs xs' : List Value} (h : W.ownsRow B U s v n xs) (h' : W.ownsRow B' V s' v' n' xs') (hUV : U ≠ V) : v.ownBlock = none ∨ v.ownBlock ≠ v'.ownBlock := by
  obtain ⟨_, ⟨rfl, _⟩ | ⟨g, cap, cur, rfl, _, h1, _⟩⟩ := h
  · exact .inl rfl
  · right
    obtain ⟨_, ⟨rfl, _⟩ | ⟨g', cap', cur', rfl, _, h2, _⟩⟩ := h'
    · intro e; cases e
    · intro e
      have e2 : g = g' := by simpa [Value.ownBlock] using e
      subst e2
      rw [h1] at h2
      simp at h2
      exact hUV h2.2
theorem owns_p {W W' : World} {B p k m : Nat} {T : TypeId} {v : Value} {xs : List Value} (h : W.ownsRow B T m v k xs) (hb : On p W W') (hp : p < B) : W'.ownsRow B T m v k xs := by
  refine h.kept hb ?_
  cases hv : v.ownBlock with
  | none => exact .inl rfl
  | some g =>
    right
    have := (h.lt g hv).1
    intro e
    have := Option.some.inj e
    omega
/-- what was drawn -/
structure Lf (B : Nat) (X : World) (v : Value) (rs : List Rn) (u : Value) (is : List Int) : Prop where
  out : X.ownsRow B 28 1 v rs.length (rs.flatMap cR)
  inn : ∀ r ∈ rs, X.ownsRow B 61 3 (.slice r.a r.l.length r.c) r.l.length (r.l.flatMap flP.c)
  nums : X.ownsRow B 3 1 u is.length (is.map (Value.int .i64))
  small : ∀ r ∈ rs, r.l.length ≤ 61 ∧ ∀ e ∈ r.l, Sml e
  near : ∀ z ∈ is, -2 ≤ z ∧ z ≤ 2
section
variable {B p : Nat} {X X' : World} {v u : Value} {rs : List Rn} {is : List Int}
theorem Lf.on (h : Lf B X v rs u is) (hb : On p X X') (hp : p < B) : Lf B X' v rs u is := ⟨owns_p h.out hb hp, fun r hr => owns_p (h.inn r hr) hb hp, owns_p h.nums hb hp, h.small, h.near⟩
theorem Lf.alloc (h : Lf B X v rs u is) (o : Obj) : Lf B (X.alloc o) v rs u is := ⟨h.out.alloc o, fun r hr => (h.inn r hr).alloc o, h.nums.alloc o, h.small, h.near⟩
/-- one batch more -/
theorem Lf.appB (h : Lf B X v rs u is) {g : Nat} {a : Option Addr} {c : Nat} {l : List flP.Pr} (hg : X.heap[g]? = some (.cells #[.slice a l.length c] 28 (0, 0))) (hr : X.ownsRow B 61 3 (.slice a l.length c) l.length (l.flatMap flP.c)) (hs : l.length ≤ 61 ∧ ∀ e ∈ l, Sml e) (hl : rs.length ≤ 100) (hB : B ≤ X.heap.size) (t : TypeId) :
    ∃ v' Y, (Builtin.append_ #[24, 24] t #[v, .slice (some ⟨g, 0, none⟩) 1 1]).run Tryz.prog X = .ok v' Y ∧ Lf B Y v' (rs ++ [⟨a, c, l⟩]) u is ∧ X.grownBy Y v.ownBlock ∧ (∀ z, v.ownBlock = some z → B ≤ z) := by
  obtain ⟨i0, hi, hz0, hz1, hz2⟩ := rcm.infoR
  obtain ⟨v', Y, hrun, ho, hgr, _, _⟩ := run_append_own_at (P := Tryz.prog) X B 24 t 28 i0 (.slice none 0 0) 1 24 Tryz.underlying24 hi hz0 hz1 hz2 rfl (by decide) v rs.length (rs.flatMap cR) h.out ⟨g, 0, none⟩ 1 1 [.slice a l.length c] rfl (fun j u hu => by rw [gbs.cpadd]; exact bcell hg (by simpa using hu)) (by intro u hu; simp at hu; subst hu; rfl) (by unfold maxLen; omega) (by omega) (by omega)
  refine ⟨v', Y, hrun, ⟨?_, fun r hr' => ?_, h.nums.kept hgr (own_apart h.nums h.out (by decide)), fun r hr' => ?_, h.near⟩, hgr, fun z hz => (h.out.lt z hz).1⟩
  · rw [List.length_append, List.flatMap_append]
    simpa [cR] using ho
  · rcases List.mem_append.1 hr' with hr' | hr'
    · exact (h.inn r hr').kept hgr (own_apart (h.inn r hr') h.out (by decide))
    · rw [List.mem_singleton.1 hr']
      exact hr.kept hgr (own_apart hr h.out (by decide))
  · rcases List.mem_append.1 hr' with hr' | hr'
    · exact h.small r hr'
    · rw [List.mem_singleton.1 hr']; exact hs
/-- one number more -/
theorem Lf.appI (h : Lf B X v rs u is) {g : Nat} {z : Int} (hg : X.heap[g]? = some (.cells #[.int .i64 z] 3 (0, 0))) (hz : -2 ≤ z ∧ z ≤ 2) (hl : is.length ≤ 100) (hB : B ≤ X.heap.size) (t : TypeId) :
    ∃ u' Y, (Builtin.append_ #[25, 25] t #[u, .slice (some ⟨g, 0, none⟩) 1 1]).run Tryz.prog X = .ok u' Y ∧ Lf B Y v rs u' (is ++ [z]) ∧ X.grownBy Y u.ownBlock ∧ (∀ z, u.ownBlock = some z → B ≤ z) := by
  obtain ⟨i0, hi, hz0, hz1, hz2⟩ := infoI
  obtain ⟨v', Y, hrun, ho, hgr, _, _⟩ := run_append_own_at (P := Tryz.prog) X B 25 t 3 i0 (.int .i64 0) 1 8 Tryz.underlying25 hi hz0 hz1 hz2 rfl (by decide) u is.length (is.map (Value.int .i64)) h.nums ⟨g, 0, none⟩ 1 1 [.int .i64 z] rfl (fun j u hu => by rw [gbs.cpadd]; exact bcell hg (by simpa using hu)) (by intro u hu; simp at hu; subst hu; rfl) (by unfold maxLen; omega) (by omega) (by omega)
  refine ⟨v', Y, hrun, ⟨h.out.kept hgr (own_apart h.out h.nums (by decide)), fun r hr' => (h.inn r hr').kept hgr (own_apart (h.inn r hr') h.nums (by decide)), ?_, h.small, fun y hy => ?_⟩, hgr, fun z hz => (h.nums.lt z hz).1⟩
  · rw [List.length_append, List.map_append]
    simpa using ho
  · rcases List.mem_append.1 hy with hy | hy
    · exact h.near y hy
    · rw [List.mem_singleton.1 hy]; exact hz
end
end Go.Proofs.YtoemkbooomgieaaGreatDoor.dlf

/- The specification's DrawLife: batches, when a store is made safe, how much is kept, and steps. -/
namespace Go.Proofs.YtoemkbooomgieaaGreatDoor.dlf
open Go.ChangeShapes Go.WideShapes Go.ChangeAt Go.RowKit Go.Proofs.YtoemkbooomgieaaGreatDoor.fl Go.Proofs.YtoemkbooomgieaaGreatDoor.dw Go.Proofs.YtoemkbooomgieaaGreatDoor.rn Go.Proofs.YtoemkbooomgieaaGreatDoor.dba
set_option linter.unusedVariables false

/-- what stands on the way -/
structure Lw (a : Option Addr) (len cap : Nat) (w X : World) (v : Value) (rs : List Rn) (u : Value) (is : List Int) : Prop where
  lf : Lf (w.heap.size + 1) X v rs u is
  cur : Cur X w.heap.size a len cap
  bel : Below w.heap.size w X
theorem own_low' {w : World} {B B' n : Nat} {U : TypeId} {s : Nat} {v : Value} {xs : List Value} (h : w.ownsRow B U s v n xs) (hb : B' ≤ B) : w.ownsRow B' U s v n xs := by
  obtain ⟨h0, h1 | ⟨g, cap, cur, h1, h2, h3⟩⟩ := h
  · exact ⟨h0, .inl h1⟩
  · exact ⟨h0, .inr ⟨g, cap, cur, h1, by omega, h3⟩⟩
section
variable {a : Option Addr} {len cap : Nat} {w X X' : World} {v u : Value} {rs : List Rn} {is : List Int}
theorem Lw.size (h : Lw a len cap w X v rs u is) : w.heap.size + 1 ≤ X.heap.size := h.cur.lt
theorem Lw.draw (h : Lw a len cap w X v rs u is) (hc : Cur X' w.heap.size a len cap) (hb : On w.heap.size X X') : Lw a len cap w X' v rs u is :=
  ⟨h.lf.on hb (by omega), hc, h.bel.trans (hb.below (Nat.le_refl _) (by have := h.size; omega))⟩
theorem Lw.alloc (h : Lw a len cap w X v rs u is) (o : Obj) : Lw a len cap w (X.alloc o) v rs u is :=
  ⟨h.lf.alloc o, h.cur.alloc o, h.bel.alloc (by have := h.size; omega) o⟩
theorem Lw.grown (h : Lw a len cap w X v rs u is) {r : Option Nat} {v' u' : Value} {rs' : List Rn} {is' : List Int} (hl : Lf (w.heap.size + 1) X' v' rs' u' is') (hg : X.grownBy X' r) (hr : ∀ z, r = some z → w.heap.size + 1 ≤ z) : Lw a len cap w X' v' rs' u' is' :=
  ⟨hl, h.cur.grown hg (fun k hk => by have := hr k hk; omega), h.bel.grown hg h.bel.size (fun k hk => by have := hr k hk; omega)⟩
set_option maxRecDepth 100000 in
set_option maxHeartbeats 4000000 in
theorem draw_life (a : Option Addr) (len cap : Nat) (w : World) (hlen : len ≤ 1048576) (hc : dw.Code w w.heap.size a len) :
    Calls Tryz.prog 5 #[.slice a len cap] w fun e w' => (∃ (v : Value) (rs : List Rn) (u : Value) (is : List Int) (sy kp : Nat), e = .returned (.tuple #[v, .int .i64 sy, .int .i64 kp, u]) ∧ Lf (w.heap.size + 1) w' v rs u is ∧ is.length = rs.length ∧ rs.length ≤ 15 ∧ sy ≤ rs.length ∧ kp < 80) ∧ Below w.heap.size w w' := by
  have h1 := draw_new a len cap w hlen hc
  clear hc
  go_enter Tryz.func5, Tryz.ntmps5
  go_wp2_with (go_at_call 15; fail)
  refine h1.mono ?_
  rintro e w1 ⟨rfl, hc1, hb1⟩
  have hlt1 := hc1.lt
  have hz0 : Lw a len cap w ((w1.alloc (.cells #[] 28)).alloc (.cells #[] 3)) (.slice (some ⟨w1.heap.size, 0, none⟩) 0 0) [] (.slice (some ⟨w1.heap.size + 1, 0, none⟩) 0 0) [] := by
    have m2 := World.ownsRow_made (base := w.heap.size + 1) (e := 3) (size := 1) (w1.alloc (.cells #[] 28)) #[] 0 (by rw [World.size_alloc]; omega) (by unfold maxLen; omega) (by simp)
    rw [World.size_alloc] at m2
    exact ⟨⟨(World.ownsRow_made (base := w.heap.size + 1) w1 #[] 0 (by omega) (by unfold maxLen; omega) (by simp)).alloc _, fun r hr => (by cases hr), m2, fun r hr => (by cases hr), fun z hz => (by cases hz)⟩, (hc1.alloc _).alloc _, (hb1.alloc (by omega) _).alloc (by rw [World.size_alloc]; omega) _⟩
  have h2 := dsz.draw_size a len cap ((w1.alloc (.cells #[] 28)).alloc (.cells #[] 3)) hlen
  have HL0 : Hid (Lw a len cap w ((w1.alloc (.cells #[] 28)).alloc (.cells #[] 3)) (.slice (some ⟨w1.heap.size, 0, none⟩) 0 0) [] (.slice (some ⟨w1.heap.size + 1, 0, none⟩) 0 0) []) := hz0
  clear h1 hc1 hb1 hz0
  go_wp2_with (go_at_call 16; fail)
  refine h2.mono ?_
  rintro e w2 ⟨⟨z, hz, rfl⟩, hb2⟩
  have HL1 : Hid (Lw a len cap w w2 (.slice (some ⟨w1.heap.size, 0, none⟩) 0 0) [] (.slice (some ⟨w1.heap.size + 1, 0, none⟩) 0 0) []) :=
    HL0.out.draw (HL0.out.cur.below hb2) (On.of_below hb2)
  have hwn : IntKind.i64.wrap (1 + (z : Int)) = ((z + 1 : Nat) : Int) := by rw [IntKind.wrap_i64]; omega
  obtain ⟨n, hn⟩ : ∃ n, z + 1 = n := ⟨_, rfl⟩
  rw [hn] at hwn
  clear h2 hb2 HL0
  go_wp2
  clear hwn
  go_loopw [7, 8, 10] (fun v u x wr => ∃ (k : Nat) (rs : List Rn) (is : List Int) (v1 u1 : Value), k ≤ n ∧ x = .int .i64 k ∧ v1 = v ∧ u1 = u ∧ rs.length = k ∧ is.length = k ∧ Hid (Lw a len cap w wr v1 rs u1 is)) (fun _ _ x _ => n - (intOf x).toNat)
  case atStart => exact ⟨0, [], [], _, _, Nat.zero_le _, rfl, rfl, rfl, rfl, rfl, HL1⟩
  case round =>
    obtain ⟨k, rs, is, v1, u1, hk, rfl, rfl, rfl, hrs, his, hst⟩ := hrel
    clear HL1
    by_cases hkn : k < n
    · have i2 : (k : Int) < (n : Int) := by omega
      have h3 := draw_batch w.heap.size a len cap wr hst.out.cur
      go_wp2_with (go_at_call 17; fail)
      refine h3.mono ?_
      rintro e w3 ⟨⟨l, v9, rfl, hl9, hbt⟩, hc3, hb3⟩
      have hs3 : w.heap.size + 1 ≤ wr.heap.size := hst.out.size
      obtain ⟨a9, c9, rfl⟩ : ∃ a9 c9, v9 = .slice a9 l.length c9 := by
        obtain ⟨_, ⟨rfl, h9⟩ | ⟨g, cap9, cur9, rfl, _⟩⟩ := hbt.row
        · exact ⟨none, 0, by rw [h9]⟩
        · exact ⟨_, _, rfl⟩
      have hl3 := (hst.out.draw hc3 hb3).alloc (.cells #[.slice a9 l.length c9] 28)
      have hsz := hl3.size
      obtain ⟨v', Y, hrun, hlf, hgr, hlo⟩ := hl3.lf.appB (bnew w3 #[.slice a9 l.length c9] 28) ((own_low' hbt.row (by omega)).alloc _) ⟨hl9, hbt.small⟩ (by omega) hsz 24
      have HL4 : Hid (Lw a len cap w Y v' (rs ++ [⟨a9, c9, l⟩]) _ is) := hl3.grown hlf hgr hlo
      clear h3 hbt hc3 hb3 hlf hgr hlo hl3 hst
      have h4 := draw_below w.heap.size a len cap 5 Y (by omega) HL4.out.cur
      go_wp2_with (first | (at_builtin; refine cpr.wpList_append_run rfl _ _ _ _ rfl _ _ _ rfl rfl hrun ?_) | (go_at_call 18; fail))
      clear hrun
      refine h4.mono ?_
      rintro e w5 ⟨⟨b, hb5, rfl⟩, hc5, hbo⟩
      have hwb : IntKind.i64.wrap ((b : Int) - 2) = (b : Int) - 2 := by rw [IntKind.wrap_i64]; omega
      have hl5 := (HL4.out.draw hc5 hbo).alloc (.cells #[.int .i64 ((b : Int) - 2)] 3)
      have hsz5 := hl5.size
      obtain ⟨u', Z, hrun, hlf, hgr, hlo⟩ := hl5.lf.appI (bnew w5 #[.int .i64 ((b : Int) - 2)] 3) (by omega) (by omega) hsz5 25
      have HL6 : Hid (Lw a len cap w Z v' (rs ++ [⟨a9, c9, l⟩]) u' (is ++ [(b : Int) - 2])) := hl5.grown hlf hgr hlo
      clear h4 hc5 hbo hlf hgr hlo hl5 HL4
      go_wp2_with (at_builtin; refine cpr.wpList_append_run rfl _ _ _ _ rfl _ _ _ rfl rfl hrun ?_)
      clear hrun hwb
      go_roundw
      case rel => exact ⟨k + 1, rs ++ [⟨a9, c9, l⟩], is ++ [(b : Int) - 2], _, _, by omega, by go_num, rfl, rfl, by rw [List.length_append, hrs]; rfl, by rw [List.length_append, his]; rfl, HL6⟩
      case measure => simp [intOf]; omega
    · obtain rfl : k = n := by omega
      have i2 : ¬ (k : Int) < (k : Int) := by omega
      have hwn : IntKind.i64.wrap ((k : Int) + 1) = ((k + 1 : Nat) : Int) := by rw [IntKind.wrap_i64]; omega
      have h5 := draw_below w.heap.size a len cap (k + 1) wr (by omega) hst.out.cur
      go_wp2_with (go_at_call 18; fail)
      refine h5.mono ?_
      rintro e w6 ⟨⟨sy, hsy, rfl⟩, hc6, hb6⟩
      have hl7 := hst.out.draw hc6 hb6
      have HL7 : Hid _ := hl7
      have h6 := draw_below w.heap.size a len cap 80 w6 (by omega) HL7.out.cur
      clear h5 hc6 hb6 hst hwn hl7
      go_wp2_with (go_at_call 18; fail)
      refine h6.mono ?_
      rintro e w7 ⟨⟨kp, hkp, rfl⟩, hc7, hb7⟩
      have hl8 := HL7.out.draw hc7 hb7
      have HL8 : Hid _ := hl8
      clear h6 hc7 hb7 HL7 hl8
      go_wp2
      exact bodyPost_ret (v := .tuple #[v1, .int .i64 sy, .int .i64 kp, u1]) (by simp [results, Tryz.results5, go_sem]) rfl ⟨⟨v1, rs, u1, is, sy, kp, rfl, HL8.out.lf, by omega, by omega, by omega, hkp⟩, HL8.out.bel⟩
end
end Go.Proofs.YtoemkbooomgieaaGreatDoor.dlf
