/- Records: what is read, on bytes: the records one behind the other, each from where the one ahead ended. -/
import Derived.Test.YtjnfljipomjcjaaGreatDoorDrawOnce
import Derived.Test.YtjnfljipomjcjaaGreatDoorDrawBytes
import Derived.Test.YtjnfljipomjcjaaGreatDoorDrawSpoil
import Derived.Test.YtjnfljipomjcjaaGreatDoorRk02
import Derived.Test.YtjnfljipomjcjaaGreatDoorRk04
import Derived.Test.YtjnfljipomjcjaaGreatDoorRk03
import Derived.Test.YtjnfljipomjcjaaGreatDoorRk01

/- The specification's draws of a batch and of a log: how great they are. -/
namespace Go.Proofs.YtjnfljipomjcjaaGreatDoor.dba
open Go.ChangeShapes Go.WideShapes Go.ChangeAt Go.RowKit Go.Proofs.YtjnfljipomjcjaaGreatDoor.fl Go.Proofs.YtjnfljipomjcjaaGreatDoor.dw
set_option linter.unusedVariables false

def keys5 : List ByteArray := [⟨#[97]⟩, ⟨#[98]⟩, ⟨#[99]⟩, ⟨#[100]⟩, ⟨#[97, 97]⟩]
theorem keys5_in : ∀ z ∈ keys5, z.size ≤ 2 := by decide
def ints3 : List Int := [0, 100, 101]
theorem ints3_in : ∀ z ∈ ints3, 0 ≤ z ∧ z ≤ 101 := by decide
/-- a small pair -/
def Sml (e : flP.Pr) : Prop := e.k.size ≤ 101 ∧ e.v.size ≤ 3
structure Bt (w W : World) (v : Value) (l : List flP.Pr) : Prop where
  row : W.ownsRow w.heap.size 61 3 v l.length (l.flatMap flP.c)
  small : ∀ e ∈ l, Sml e
theorem owns_on {w wr w1 : World} {p k m : Nat} {T : TypeId} {v : Value} {xs : List Value} (h : wr.ownsRow w.heap.size T m v k xs) (hb : On p wr w1) (hp : p < w.heap.size) : w1.ownsRow w.heap.size T m v k xs := by
  refine h.kept hb ?_
  cases hv : v.ownBlock with
  | none => exact .inl rfl
  | some g =>
    right
    have := (h.lt g hv).1
    intro e
    have := Option.some.inj e
    omega
theorem Bt.on {w wr w1 : World} {p : Nat} {v : Value} {l : List flP.Pr} (h : Bt w wr v l) (hb : On p wr w1) (hp : p < w.heap.size) : Bt w w1 v l := ⟨owns_on h.row hb hp, h.small⟩
theorem Bt.alloc {w wr : World} {v : Value} {l : List flP.Pr} (h : Bt w wr v l) (o : Obj) : Bt w (wr.alloc o) v l := ⟨h.row.alloc o, h.small⟩
theorem bt_0 (w : World) : Bt w (w.alloc (.cells #[] 61)) (.slice (some ⟨w.heap.size, 0, none⟩) 0 0) [] := ⟨World.ownsRow_made w #[] 0 (Nat.le_refl _) (by unfold maxLen; omega) (by simp), fun e he => by cases he⟩
theorem Bt.app {w X : World} {v : Value} {l : List flP.Pr} {k s : ByteArray} {b : Bool} {g : Nat} (h : Bt w X v l) (hg : X.heap[g]? = some (.cells #[.string k, .string s, .bool b] 61 (0, 0))) (hl : l.length ≤ 100) (hs : w.heap.size ≤ X.heap.size) (hm : Sml ⟨k, s, b⟩) (t : TypeId) :
    ∃ v' Y, (Builtin.append_ #[24, 24] t #[v, .slice (some ⟨g, 0, none⟩) 1 1]).run Tryz.prog X = .ok v' Y ∧ Bt w Y v' (l ++ [⟨k, s, b⟩]) ∧ X.grownBy Y v.ownBlock ∧ (∀ z, v.ownBlock = some z → w.heap.size ≤ z) := by
  obtain ⟨i0, hi, hz0, hz1, hz2⟩ := gbs.infoP
  obtain ⟨v', Y, hr, ho, hgr, _, _⟩ := run_append_own_at (P := Tryz.prog) X w.heap.size 24 t 61 i0 (.agg #[.string ByteArray.empty, .string ByteArray.empty, .bool false]) 3 40 Tryz.underlying24 hi hz0 hz1 hz2 rfl (by decide) v l.length (l.flatMap flP.c) h.row ⟨g, 0, none⟩ 1 1 [.string k, .string s, .bool b] rfl (fun j u hu => by rw [gbs.cpadd]; exact bcell hg (by simpa using hu)) (by intro u hu; simp at hu; rcases hu with rfl | rfl | rfl <;> rfl) (by unfold maxLen; omega) (by omega) hs
  refine ⟨v', Y, hr, ⟨?_, fun e he => ?_⟩, hgr, fun z hz => (h.row.lt z hz).1⟩
  · rw [List.length_append, List.flatMap_append]
    simpa [flP.c] using ho
  · rcases List.mem_append.1 he with he | he
    · exact h.small e he
    · rw [List.mem_singleton.1 he]; exact hm

theorem Bt.set {w W : World} {v u : Value} {l : List flP.Pr} {b o : Nat} (h : Bt w W v l) (hb : ∀ z, v.ownBlock = some z → z ≠ b) : Bt w (W.setCell ⟨b, o, none⟩ u) v l := by
  refine ⟨h.row.kept (row := some b) ⟨rfl, rfl, rfl, by simp, fun k hk hne => Below.heap_setCell _ _ _ _ (fun e => hne (by rw [e]))⟩ ?_, h.small⟩
  cases hv : v.ownBlock with
  | none => exact .inl rfl
  | some g => exact .inr (fun e => hb g hv (Option.some.inj e))
theorem cur_set {W : World} {p b o : Nat} {a : Option Addr} {len cap : Nat} {u : Value} (h : Cur W p a len cap) (hb : p < b) : Cur (W.setCell ⟨b, o, none⟩ u) p a len cap :=
  h.grown (row := some b) ⟨rfl, rfl, rfl, by simp, fun k hk hne => Below.heap_setCell _ _ _ _ (fun e => hne (by rw [e]))⟩ (fun k hk => by have := Option.some.inj hk; omega)
theorem on_set {w W : World} {p b o : Nat} {u : Value} (h : On p w W) (hb : w.heap.size ≤ b) : On p w (W.setCell ⟨b, o, none⟩ u) :=
  h.grown (row := some b) ⟨rfl, rfl, rfl, by simp, fun k hk hne => Below.heap_setCell _ _ _ _ (fun e => hne (by rw [e]))⟩ (fun k hk => by have := Option.some.inj hk; omega)
theorem on_block {W W' : World} {p b : Nat} {o : Obj} (h : On p W W') (hb : W.heap[b]? = some o) (hne : b ≠ p) : W'.heap[b]? = some o := (h.block b (Array.getElem?_eq_some_iff.1 hb).1 (fun e => hne (Option.some.inj e))).trans hb
set_option maxRecDepth 100000 in
set_option maxHeartbeats 4000000 in
theorem draw_batch (p : Nat) (a : Option Addr) (len cap : Nat) (w : World) (hc : Cur w p a len cap) :
    Calls Tryz.prog 24 #[.pointer (some ⟨p, 0, none⟩)] w fun e w' => (∃ (l : List flP.Pr) (v : Value), e = .returned v ∧ l.length ≤ 61 ∧ Bt w w' v l) ∧ Cur w' p a len cap ∧ On p w w' := by
  have hp := hc.lt
  have h1 := draw_below p a len cap 5 _ (by omega) (hc.alloc (.cells #[] 61))
  have HB0 : Hid (Bt w (w.alloc (.cells #[] 61)) (.slice (some ⟨w.heap.size, 0, none⟩) 0 0) []) := bt_0 w
  clear hc
  go_enter Tryz.func24, Tryz.ntmps24
  go_wp2_with (go_at_call 52; fail)
  refine h1.mono ?_
  rintro e w1 ⟨⟨n, hn, rfl⟩, hc1, hb1⟩
  have hon : On p w w1 := ((On.refl p w).alloc _).trans hb1
  have HC1 : Hid (Cur w1 p a len cap) := hc1
  have HB1 : Hid (Bt w w1 (.slice (some ⟨w.heap.size, 0, none⟩) 0 0) []) := HB0.out.on hb1 hp
  clear h1 hc1 hb1 HB0
  go_wp2
  go_loopw [3, 5] (fun y x wr => ∃ (j : Nat) (l : List flP.Pr), j ≤ n ∧ x = .int .i64 j ∧ l.length = j ∧ Hid (Bt w wr y l) ∧ Hid (Cur wr p a len cap) ∧ On p w wr) (fun _ x _ => n - (intOf x).toNat)
  case atStart => exact ⟨0, [], Nat.zero_le _, rfl, rfl, HB1, HC1, hon⟩
  case round =>
    obtain ⟨j, l, hj, rfl, hl, hbt, hcur, honr⟩ := hrel
    have hpr := hcur.out.lt
    have hsz := honr.size
    by_cases hjn : j < n
    · have i2 : (j : Int) < (n : Int) := by omega
      have g1 := draw_pick p a len cap wr.heap.size 5 keys5 _ (by omega) (by omega) (at_texts wr keys5 9) (hcur.out.alloc _)
      go_wp2_with (go_at_call 54; fail)
      refine g1.mono ?_
      rintro e x1 ⟨⟨ky, hky, rfl⟩, hd1, hf1⟩
      have g2 := draw_once p a len cap 4 x1 (by omega) hd1
      have hk2 := keys5_in ky hky
      have hon1 : On p w x1 := (honr.alloc _).trans hf1
      have HB1' : Hid (Bt w x1 u3 l) := (hbt.out.alloc _).on hf1 hp
      clear g1 hd1 hf1 hcur hbt honr hky
      go_wp2_with (go_at_call 55; fail)
      refine g2.mono ?_
      rintro e x2 ⟨⟨gn, rfl⟩, hd2, hf2⟩
      have hon2 : On p w x2 := hon1.trans hf2
      have HB2 : Hid (Bt w x2 u3 l) := HB1'.out.on hf2 hp
      have HD2 : Hid (Cur x2 p a len cap) := hd2
      have hs2 := hon2.size
      have hlt2 := HD2.out.lt
      clear g2 hd2 hf2 HB1' hon1
      cases gn with
      | true =>
        obtain ⟨v', Y, hr, hbY, hgr, hlo⟩ := Bt.app (k := ky) (s := ⟨#[]⟩) (b := true) ((HB2.out.alloc (.cells #[.string ky, .string ⟨#[]⟩, .bool true] 61)).alloc (.cells #[.string ky, .string ⟨#[]⟩, .bool true] 61)) (bnew (x2.alloc (.cells #[.string ky, .string ⟨#[]⟩, .bool true] 61)) _ _) (by omega) (by simp; omega) ⟨by show (ky).size ≤ 101; omega, by show (⟨#[]⟩ : ByteArray).size ≤ 3; decide⟩ 24
        have HBY : Hid (Bt w Y v' (l ++ [⟨ky, ⟨#[]⟩, true⟩])) := hbY
        have HCY : Hid (Cur Y p a len cap) := ((HD2.out.alloc (.cells #[.string ky, .string ⟨#[]⟩, .bool true] 61)).alloc (.cells #[.string ky, .string ⟨#[]⟩, .bool true] 61)).grown hgr (fun z hz => by have := hlo z hz; omega)
        have hoY : On p w Y := ((hon2.alloc (.cells #[.string ky, .string ⟨#[]⟩, .bool true] 61)).alloc (.cells #[.string ky, .string ⟨#[]⟩, .bool true] 61)).grown hgr hlo
        rw [World.size_alloc] at hr
        clear hbY hlo
        go_wp2_with (at_builtin; refine cpr.wpList_append_run rfl _ _ _ _ rfl _ _ _ rfl rfl hr ?_)
        clear hr hgr
        go_wp2
        go_roundw
        case rel => exact ⟨j + 1, l ++ [⟨ky, ⟨#[]⟩, true⟩], by omega, by go_num, by simp [hl], HBY, HCY, hoY⟩
        case measure => simp [intOf]; omega
      | false =>
        have g3 := draw_below p a len cap 4 _ (by omega) (HD2.out.alloc (.cells #[.string ky, .string ⟨#[]⟩, .bool false] 61))
        have hbx := bnew x2 #[.string ky, .string ⟨#[]⟩, .bool false] 61
        go_wp2_with (go_at_call 52; fail)
        refine g3.mono ?_
        rintro e x3 ⟨⟨m, hm, rfl⟩, hd3, hf3⟩
        have g4 := draw_bytes p a len cap m x3 (by omega) hd3
        clear g3
        go_wp2_with (go_at_call 56; fail)
        refine g4.mono ?_
        rintro e x4 ⟨⟨sv, hsv, rfl⟩, hd4, hf4⟩
        have hb4 : x4.heap[x2.heap.size]? = some (.cells #[.string ky, .string ⟨#[]⟩, .bool false] 61 (0, 0)) := on_block hf4 (on_block hf3 hbx (by omega)) (by omega)
        have hb5 : (x4.setCell ⟨x2.heap.size, 1, none⟩ (.string sv)).heap[x2.heap.size]? = some (.cells #[.string ky, .string sv, .bool false] 61 (0, 0)) := bset hb4 1 (.string sv)
        have HB5 : Hid (Bt w (x4.setCell ⟨x2.heap.size, 1, none⟩ (.string sv)) u3 l) := ((((HB2.out.alloc _).on hf3 hp).on hf4 hp)).set (fun z hz => by have := (HB2.out.row.lt z hz).2; omega)
        have HD5 : Hid (Cur (x4.setCell ⟨x2.heap.size, 1, none⟩ (.string sv)) p a len cap) := cur_set hd4 (by omega)
        have hon5 : On p w (x4.setCell ⟨x2.heap.size, 1, none⟩ (.string sv)) := on_set (((hon2.alloc _).trans hf3).trans hf4) (by omega)
        have q0 : x4.cell? ⟨x2.heap.size, 1, none⟩ = some (.string ⟨#[]⟩) := bcell hb4 rfl
        have q1 := bfree hb4 1
        have hs5 := hon5.size
        obtain ⟨X5, hX5⟩ : ∃ X5, x4.setCell ⟨x2.heap.size, 1, none⟩ (.string sv) = X5 := ⟨_, rfl⟩
        rw [hX5] at hb5 HB5 HD5 hon5 hs5
        have r0 : X5.cell? ⟨x2.heap.size, 0, none⟩ = some (.string ky) := bcell hb5 rfl
        have r1 : X5.cell? ⟨x2.heap.size, 1, none⟩ = some (.string sv) := bcell hb5 rfl
        have r2 : X5.cell? ⟨x2.heap.size, 2, none⟩ = some (.bool false) := bcell hb5 rfl
        obtain ⟨v', Y, hr, hbY, hgr, hlo⟩ := Bt.app (k := ky) (s := sv) (b := false) (HB5.out.alloc (.cells #[.string ky, .string sv, .bool false] 61)) (bnew X5 _ _) (by omega) (by simp; omega) ⟨by show (ky).size ≤ 101; omega, by show (sv).size ≤ 3; omega⟩ 24
        have HBY : Hid (Bt w Y v' (l ++ [⟨ky, sv, false⟩])) := hbY
        have HCY : Hid (Cur Y p a len cap) := (HD5.out.alloc (.cells #[.string ky, .string sv, .bool false] 61)).grown hgr (fun z hz => by have := hlo z hz; omega)
        have hoY : On p w Y := (hon5.alloc (.cells #[.string ky, .string sv, .bool false] 61)).grown hgr hlo
        clear hbY hlo g4 hd3 hf3 hd4 hf4 hbx hb4
        go_wp2_with (at_builtin; refine cpr.wpList_append_run rfl _ _ _ _ rfl _ _ _ rfl rfl hr ?_)
        clear hr hgr hX5
        go_wp2
        go_roundw
        case rel => exact ⟨j + 1, l ++ [⟨ky, sv, false⟩], by omega, by go_num, by simp [hl], HBY, HCY, hoY⟩
        case measure => simp [intOf]; omega
    · obtain rfl : j = n := by omega
      have i2 : ¬ (l.length : Int) < (l.length : Int) := by omega
      have g2 := draw_below p a len cap 30 wr (by omega) hcur.out
      have HBR : Hid (Bt w wr u3 l) := hbt
      clear hcur hbt
      go_wp2_with (go_at_call 52; fail)
      refine g2.mono ?_
      rintro e x1 ⟨⟨c, hcc, rfl⟩, hd1, hf1⟩
      have hon1 := honr.trans hf1
      have HD1 : Hid (Cur x1 p a len cap) := hd1
      have HB : Hid (Bt w x1 u3 l) := HBR.out.on hf1 hp
      have hs1 := hon1.size
      have hlt1 := HD1.out.lt
      clear g2 hd1 hf1 HBR honr
      by_cases hc0 : c = 0
      · subst hc0
        have g3 := draw_pick_int p a len cap x1.heap.size 3 ints3 _ (by omega) (by omega) (at_list x1 ints3 3) (HD1.out.alloc _)
        go_wp2_with (go_at_call 57; fail)
        refine g3.mono ?_
        rintro e x2 ⟨⟨z, hz, rfl⟩, hd2, hf2⟩
        have hz3 := ints3_in z hz
        obtain ⟨zn, rfl⟩ : ∃ zn : Nat, z = (zn : Int) := ⟨z.toNat, by omega⟩
        have g4 := draw_bytes p a len cap zn x2 (by omega) hd2
        clear g3 hz
        go_wp2_with (go_at_call 56; fail)
        refine g4.mono ?_
        rintro e x3 ⟨⟨ky, hky, rfl⟩, hd3, hf3⟩
        have HB3 : Hid (Bt w x3 u3 l) := ((HB.out.alloc _).on hf2 hp).on hf3 hp
        have HD3 : Hid (Cur x3 p a len cap) := hd3
        have hon3 : On p w x3 := ((hon1.alloc _).trans hf2).trans hf3
        have hs3 := hon3.size
        obtain ⟨v', Y, hr, hbY, hgr, hlo⟩ := Bt.app (k := ky) (s := ⟨#[]⟩) (b := false) (HB3.out.alloc (.cells #[.string ky, .string ⟨#[]⟩, .bool false] 61)) (bnew x3 _ _) (by omega) (by simp; omega) ⟨by show (ky).size ≤ 101; omega, by show (⟨#[]⟩ : ByteArray).size ≤ 3; decide⟩ 24
        have HBY : Hid (Bt w Y v' (l ++ [⟨ky, ⟨#[]⟩, false⟩])) := hbY
        have HCY : Hid (Cur Y p a len cap) := (HD3.out.alloc (.cells #[.string ky, .string ⟨#[]⟩, .bool false] 61)).grown hgr (fun z hz => by have := hlo z hz; omega)
        have hoY : On p w Y := (hon3.alloc (.cells #[.string ky, .string ⟨#[]⟩, .bool false] 61)).grown hgr hlo
        clear hbY hlo g4 hd2 hf2 hd3 hf3
        go_wp2_with (at_builtin; refine cpr.wpList_append_run rfl _ _ _ _ rfl _ _ _ rfl rfl hr ?_)
        clear hr hgr
        go_wp2
        go_ret
        exact ⟨⟨_, _, rfl, by simp; omega, HBY.out⟩, HCY.out, hoY⟩
      · by_cases hc1 : c = 1
        · subst hc1
          go_wp2
          go_loopw [3] (fun y wq => ∃ (m : List flP.Pr) (ya : Option Addr) (yc : Nat), y = .slice ya m.length yc ∧ m.length ≤ 61 ∧ Hid (Bt w wq y m) ∧ Hid (Cur wq p a len cap) ∧ On p w wq) (fun y _ => 70 - (match y with | .slice _ k _ => k | _ => 0))
          case atStart =>
            obtain ⟨ya, yc, hy, _⟩ := own_row flP.c_len HB.out.row
            subst hy
            exact ⟨l, ya, yc, rfl, by omega, HB, HD1, hon1⟩
          case round =>
            obtain ⟨m, ya, yc, rfl, hm, hbt2, hcur2, honr2⟩ := hrel
            have g3 := draw_below p a len cap 2 wr (by omega) hcur2.out
            clear hcur2
            go_wp2_with (go_at_call 52; fail)
            refine g3.mono ?_
            rintro e x2 ⟨⟨d, hd, rfl⟩, hd2, hf2⟩
            have HD2 : Hid (Cur x2 p a len cap) := hd2
            have HB2 : Hid (Bt w x2 (.slice ya m.length yc) m) := hbt2.out.on hf2 hp
            have hon2 := honr2.trans hf2
            have hs2 := hon2.size
            clear g3 hd2 hf2 hbt2 honr2
            by_cases hlt : m.length < 60 + d
            · have hlt2 : (m.length : Int) < 60 + (d : Int) := by omega
              obtain ⟨v', Y, hr, hbY, hgr, hlo⟩ := Bt.app (k := ⟨#[107]⟩) (s := ⟨#[118]⟩) (b := false) (HB2.out.alloc (.cells #[.string ⟨#[107]⟩, .string ⟨#[118]⟩, .bool false] 61)) (bnew x2 _ _) (by omega) (by simp; omega) ⟨by show (⟨#[107]⟩ : ByteArray).size ≤ 101; decide, by show (⟨#[118]⟩ : ByteArray).size ≤ 3; decide⟩ 24
              have HBY : Hid (Bt w Y v' (m ++ [⟨⟨#[107]⟩, ⟨#[118]⟩, false⟩])) := hbY
              have HCY : Hid (Cur Y p a len cap) := (HD2.out.alloc (.cells #[.string ⟨#[107]⟩, .string ⟨#[118]⟩, .bool false] 61)).grown hgr (fun z hz => by have := hlo z hz; omega)
              have hoY : On p w Y := (hon2.alloc (.cells #[.string ⟨#[107]⟩, .string ⟨#[118]⟩, .bool false] 61)).grown hgr hlo
              clear hbY hlo
              go_wp2_with (at_builtin; refine cpr.wpList_append_run rfl _ _ _ _ rfl _ _ _ rfl rfl hr ?_)
              clear hr hgr
              obtain ⟨yb, yd, hyy, _⟩ := own_row flP.c_len HBY.out.row
              subst hyy
              go_wp2
              go_roundw
              case rel => exact ⟨m ++ [⟨⟨#[107]⟩, ⟨#[118]⟩, false⟩], yb, yd, rfl, by simp; omega, HBY, HCY, hoY⟩
              case measure => simp; omega
            · have hlt2 : ¬ (m.length : Int) < 60 + (d : Int) := by omega
              go_wp2
              go_ret
              exact ⟨⟨_, _, rfl, by omega, HB2.out⟩, HD2.out, hon2⟩
        · by_cases hc2 : c = 2
          · subst hc2
            obtain ⟨v', Y, hr, hbY, hgr, hlo⟩ := Bt.app (k := ⟨#[103]⟩) (s := ⟨#[118]⟩) (b := true) (HB.out.alloc (.cells #[.string ⟨#[103]⟩, .string ⟨#[118]⟩, .bool true] 61)) (bnew x1 _ _) (by omega) (by simp; omega) ⟨by show (⟨#[103]⟩ : ByteArray).size ≤ 101; decide, by show (⟨#[118]⟩ : ByteArray).size ≤ 3; decide⟩ 24
            have HBY : Hid (Bt w Y v' (l ++ [⟨⟨#[103]⟩, ⟨#[118]⟩, true⟩])) := hbY
            have HCY : Hid (Cur Y p a len cap) := (HD1.out.alloc (.cells #[.string ⟨#[103]⟩, .string ⟨#[118]⟩, .bool true] 61)).grown hgr (fun z hz => by have := hlo z hz; omega)
            have hoY : On p w Y := (hon1.alloc (.cells #[.string ⟨#[103]⟩, .string ⟨#[118]⟩, .bool true] 61)).grown hgr hlo
            clear hbY hlo
            go_wp2_with (at_builtin; refine cpr.wpList_append_run rfl _ _ _ _ rfl _ _ _ rfl rfl hr ?_)
            clear hr hgr
            go_wp2
            go_ret
            exact ⟨⟨_, _, rfl, by simp; omega, HBY.out⟩, HCY.out, hoY⟩
          · have e0 : ((c : Int) == 0) = false := by simp only [beq_eq_false_iff_ne]; omega
            have e1 : ((c : Int) == 1) = false := by simp only [beq_eq_false_iff_ne]; omega
            have e2 : ((c : Int) == 2) = false := by simp only [beq_eq_false_iff_ne]; omega
            go_wp2
            go_ret
            exact ⟨⟨_, _, rfl, by omega, HB.out⟩, HD1.out, hon1⟩
end Go.Proofs.YtjnfljipomjcjaaGreatDoor.dba

/- The specification's draws of a log, of a log with a batch, and of a batch's bytes. -/
namespace Go.Proofs.YtjnfljipomjcjaaGreatDoor.dlo
open Go.ChangeShapes Go.WideShapes Go.ChangeAt Go.RowKit Go.Proofs.YtjnfljipomjcjaaGreatDoor.fl Go.Proofs.YtjnfljipomjcjaaGreatDoor.dw Go.Proofs.YtjnfljipomjcjaaGreatDoor.dba
set_option linter.unusedVariables false

theorem short_le {k : ByteArray} (h : k.size ≤ 101) : (ps.out k).size ≤ 110 := by
  have := pb.short_size (k := k) (by omega)
  omega
theorem long_le {v : ByteArray} (h : v.size ≤ 3) : (pl.out v).size ≤ 11 := by
  have := pb.long_size (v := v) (by omega)
  omega
theorem one_le {e : flP.Pr} (h : Sml e) : (pb.one e).size ≤ 122 := by
  have h1 := short_le h.1
  have h2 := long_le h.2
  have c1 : (⟨#[1]⟩ : ByteArray).size = 1 := rfl
  have c0 : (⟨#[0]⟩ : ByteArray).size = 1 := rfl
  unfold pb.one
  split
  · rw [ByteArray.size_append]; omega
  · rw [ByteArray.size_append, ByteArray.size_append]; omega
theorem all_le : ∀ (l : List flP.Pr), (∀ e ∈ l, Sml e) → (pb.all l).size ≤ 122 * l.length
  | [], _ => by show 0 ≤ _; omega
  | e :: l, h => by
    have h1 := one_le (h e (by simp))
    have h2 := all_le l (fun x hx => h x (by simp [hx]))
    simp only [pb.all, ByteArray.size_append, List.length_cons]
    omega
theorem out_le {l : List flP.Pr} (h : ∀ e ∈ l, Sml e) (hl : l.length ≤ 61) : (pb.out l).size ≤ 7460 := by
  have h1 := all_le l h
  have h2 := pi.text_size (l.length : Int) 1
  unfold pb.out
  split
  · rw [ByteArray.size_append]; omega
  · show 0 ≤ _; omega
theorem rec_le {l : List flP.Pr} (h : ∀ e ∈ l, Sml e) (hl : l.length ≤ 61) : (rcd.out l).size ≤ 7480 := by
  have h1 := out_le h hl
  have h2 := pi.text_size (cs.sum (pb.out l) : Int) 4
  have h3 := pb.long_size (v := pb.out l) (by omega)
  unfold rcd.out
  split
  · show 0 ≤ _; omega
  · rw [ByteArray.size_append]; omega
theorem ans_le {x : ByteArray} {l : List flP.Pr} (h : ∀ e ∈ l, Sml e) (hl : l.length ≤ 61) : (apd.ans x l).size ≤ x.size + 7480 := by
  have h1 := rec_le h hl
  unfold apd.ans
  split
  · omega
  · rw [ByteArray.size_append]; omega
theorem fit_of {l : List flP.Pr} (h : ∀ e ∈ l, Sml e) (hl : l.length ≤ 61) : bs.Fit l := ⟨by omega, fun e he => by have := h e he; unfold Sml at this; omega⟩
set_option maxRecDepth 100000 in
set_option maxHeartbeats 2000000 in
theorem draw_log (p : Nat) (a : Option Addr) (len cap : Nat) (w : World) (hc : Cur w p a len cap) :
    Calls Tryz.prog 23 #[.pointer (some ⟨p, 0, none⟩)] w fun e w' => (∃ s : ByteArray, s.size ≤ 40000 ∧ e = .returned (.string s)) ∧ Cur w' p a len cap ∧ On p w w' := by
  have hp := hc.lt
  have h1 := draw_below p a len cap 6 w (by omega) hc
  clear hc
  go_enter Tryz.func23, Tryz.ntmps23
  go_wp2_with (go_at_call 52; fail)
  refine h1.mono ?_
  rintro e w1 ⟨⟨n, hn, rfl⟩, hc1, hb1⟩
  have HC1 : Hid (Cur w1 p a len cap) := hc1
  clear h1 hc1
  go_wp2
  go_loopw [3, 5, 6, 7] (fun y x _ _ wr => ∃ (j : Nat) (s : ByteArray), j ≤ n ∧ x = .int .i64 j ∧ y = .string s ∧ s.size ≤ 7480 * j ∧ Hid (Cur wr p a len cap) ∧ On p w wr) (fun _ x _ _ _ => n - (intOf x).toNat)
  case atStart => exact ⟨0, ⟨#[]⟩, Nat.zero_le _, rfl, rfl, by show 0 ≤ _; omega, HC1, hb1⟩
  case round =>
    obtain ⟨j, s, hj, rfl, rfl, hs, hcur, honr⟩ := hrel
    by_cases hjn : j < n
    · have i2 : (j : Int) < (n : Int) := by omega
      have g1 := draw_batch p a len cap wr hcur.out
      have HS : Hid (s.size ≤ 7480 * j) := hs
      have hs9 : s.size ≤ 1048576 := by omega
      clear hs hcur
      go_wp2_with (go_at_call 24; fail)
      refine g1.mono ?_
      rintro e x1 ⟨⟨l, v, rfl, hl, hbt⟩, hd1, hf1⟩
      obtain ⟨ya, yc, rfl, hrow⟩ := own_row flP.c_len hbt.row
      have g2 := apd.spec_append s l ya yc x1 hs9 (fit_of hbt.small hl) hrow
      have hle := ans_le (x := s) hbt.small hl
      have HD1 : Hid (Cur x1 p a len cap) := hd1
      have hon1 := honr.trans hf1
      clear g1 hbt hd1 hf1 hrow honr
      obtain ⟨t, ht⟩ : ∃ t, apd.ans s l = t := ⟨_, rfl⟩
      obtain ⟨b, hb⟩ : ∃ b, apd.can s l = b := ⟨_, rfl⟩
      rw [ht] at g2 hle
      rw [hb] at g2
      go_wp2_with (go_at_call 53; fail)
      refine g2.mono ?_
      rintro e x2 ⟨rfl, hb2⟩
      have HD2 : Hid (Cur x2 p a len cap) := HD1.out.below hb2
      have hon2 : On p w x2 := hon1.trans (On.of_below hb2)
      clear g2 hb2 HD1 hon1 ht hb
      go_wp2
      go_roundw
      case rel => exact ⟨j + 1, t, by omega, by go_num, rfl, by have := HS.out; omega, HD2, hon2⟩
      case measure => simp [intOf]; omega
    · obtain rfl : j = n := by omega
      have g1 := df.draw_spoil p a len cap s wr (by omega) hcur.out
      go_wp2_with (go_at_call 35; fail)
      refine g1.mono ?_
      rintro e x1 ⟨⟨t, ht, rfl⟩, hd1, hf1⟩
      have HD1 : Hid (Cur x1 p a len cap) := hd1
      have hon1 := honr.trans hf1
      clear g1 hd1 hf1
      go_wp2
      go_ret
      exact ⟨⟨t, by omega, rfl⟩, HD1.out, hon1⟩
theorem own_lo {B B' n m : Nat} {T : TypeId} {v : Value} {xs : List Value} {W : World} (h : W.ownsRow B T n v m xs) (hB : B' ≤ B) : W.ownsRow B' T n v m xs := by
  obtain ⟨h1, h2⟩ := h
  refine ⟨h1, h2.imp id ?_⟩
  rintro ⟨g, cap, cur, e, k2, k3⟩
  exact ⟨g, cap, cur, e, by omega, k3⟩
set_option maxRecDepth 100000 in
set_option maxHeartbeats 2000000 in
theorem draw_Append (a : Option Addr) (len cap : Nat) (w : World) (hlen : len ≤ 1048576) (hc : dw.Code w w.heap.size a len) :
    Calls Tryz.prog 5 #[.slice a len cap] w fun e w' => (∃ (s : ByteArray) (l : List flP.Pr) (v : Value), s.size ≤ 40000 ∧ l.length ≤ 61 ∧ (∀ e ∈ l, Sml e) ∧ e = .returned (.tuple #[.string s, v]) ∧ w'.ownsRow w.heap.size 61 3 v l.length (l.flatMap flP.c)) ∧ Below w.heap.size w w' := by
  have h1 := draw_new a len cap w hlen hc
  clear hc
  go_enter Tryz.func5, Tryz.ntmps5
  go_wp2_with (go_at_call 22; fail)
  refine h1.mono ?_
  rintro e w1 ⟨rfl, hc1, hb1⟩
  have h2 := draw_log w.heap.size a len cap w1 hc1
  clear h1 hc1
  go_wp2_with (go_at_call 23; fail)
  refine h2.mono ?_
  rintro e w2 ⟨⟨s, hs, rfl⟩, hc2, hb2⟩
  have h3 := draw_batch w.heap.size a len cap w2 hc2
  have hB2 : Below w.heap.size w w2 := hb1.trans (hb2.below (Nat.le_refl _) hb1.size)
  clear h2 hc2 hb2
  go_wp2_with (go_at_call 24; fail)
  refine h3.mono ?_
  rintro e w3 ⟨⟨l, v, rfl, hl, hbt⟩, hc3, hb3⟩
  have hB3 : Below w.heap.size w w3 := hB2.trans (hb3.below (Nat.le_refl _) hB2.size)
  have HO : Hid (w3.ownsRow w.heap.size 61 3 v l.length (l.flatMap flP.c)) := own_lo hbt.row hB2.size
  have HSM : Hid (∀ e ∈ l, Sml e) := hbt.small
  clear h3 hc3 hb3 hbt
  go_wp2
  go_ret2
  exact ⟨⟨s, l, v, hs, hl, HSM.out, rfl, HO.out⟩, hB3⟩
set_option maxRecDepth 100000 in
set_option maxHeartbeats 2000000 in
theorem draw_GetBatch (a : Option Addr) (len cap : Nat) (w : World) (hlen : len ≤ 1048576) (hc : dw.Code w w.heap.size a len) :
    Calls Tryz.prog 10 #[.slice a len cap] w fun e w' => (∃ s : ByteArray, s.size ≤ 40000 ∧ e = .returned (.string s)) ∧ Below w.heap.size w w' := by
  have h1 := draw_new a len cap w hlen hc
  clear hc
  go_enter Tryz.func10, Tryz.ntmps10
  go_wp2_with (go_at_call 22; fail)
  refine h1.mono ?_
  rintro e w1 ⟨rfl, hc1, hb1⟩
  have h2 := draw_batch w.heap.size a len cap w1 hc1
  clear h1 hc1
  go_wp2_with (go_at_call 24; fail)
  refine h2.mono ?_
  rintro e w2 ⟨⟨l, v, rfl, hl, hbt⟩, hc2, hb2⟩
  obtain ⟨ya, yc, rfl, hrow⟩ := own_row flP.c_len hbt.row
  have h3 := pbs.spec_put l ya yc w2 (fit_of hbt.small hl) hrow
  have hle := out_le hbt.small hl
  have HC2 : Hid (Cur w2 w.heap.size a len cap) := hc2
  have hB2 : Below w.heap.size w w2 := hb1.trans (hb2.below (Nat.le_refl _) hb1.size)
  clear h2 hc2 hb2 hbt hrow
  obtain ⟨t, ht⟩ : ∃ t, pb.out l = t := ⟨_, rfl⟩
  rw [ht] at h3 hle
  go_wp2_with (go_at_call 13; fail)
  refine h3.mono ?_
  rintro e w3 ⟨rfl, hb3⟩
  have h4 := df.draw_spoil w.heap.size a len cap t w3 (by omega) (HC2.out.below hb3)
  have hB3 : Below w.heap.size w w3 := hB2.trans (hb3.mono hB2.size)
  clear h3 hb3
  go_wp2_with (go_at_call 35; fail)
  refine h4.mono ?_
  rintro e w4 ⟨⟨u, hu, rfl⟩, hc4, hb4⟩
  have hB4 : Below w.heap.size w w4 := hB3.trans (hb4.below (Nat.le_refl _) hB3.size)
  clear h4 hc4 hb4
  go_wp2
  go_ret
  exact ⟨⟨u, by omega, rfl⟩, hB4⟩
end Go.Proofs.YtjnfljipomjcjaaGreatDoor.dlo

/- Records: what is read, on bytes: the records one behind the other, each from where the one ahead ended. -/
namespace Go.Proofs.YtjnfljipomjcjaaGreatDoor.rcp
open Go.ChangeShapes Go.WideShapes Go.ChangeAt Go.RowKit Go.Proofs.YtjnfljipomjcjaaGreatDoor.fl Go.Proofs.YtjnfljipomjcjaaGreatDoor.gbp
set_option linter.unusedVariables false

theorem rn_len (s : ByteArray) : ∀ (k : Nat) (i : Int) (l : List flP.Pr) (e : Int), rn s k i = some (l, e) → l.length = k := by
  intro k
  induction k with
  | zero => intro i l e h; simp [rn] at h; rw [h.1]; rfl
  | succ k ih =>
    intro i l e h
    unfold rn at h
    cases h1 : stp s i with
    | none => rw [h1] at h; simp at h
    | some x =>
      obtain ⟨p, j⟩ := x
      rw [h1] at h
      simp only at h
      cases h2 : rn s k j with
      | none => rw [h2] at h; simp at h
      | some y =>
        obtain ⟨m, z⟩ := y
        rw [h2] at h
        simp only [Option.some.injEq, Prod.mk.injEq] at h
        rw [← h.1, List.length_cons, ih j m z h2]
theorem gotL_len (s : ByteArray) : (gotL s).length ≤ 60 := by
  unfold gotL got
  split
  · rename_i h
    simp only [Bool.and_eq_true, decide_eq_true_eq] at h
    cases h1 : rn s (gi.num s 0 1).toNat 1 with
    | none => simp
    | some x =>
      obtain ⟨l, e⟩ := x
      have := rn_len s _ _ _ _ h1
      simp only
      split
      · simp only [Option.getD_some]; omega
      · simp
  · simp
theorem stop4 {s : ByteArray} {i : Int} (h : gi.okAt s i 4 = true) : gi.stop s i 4 = i + 4 := by
  unfold gi.stop
  rw [if_pos h]
theorem at4 {s : ByteArray} {i : Int} (h : gi.okAt s i 4 = true) : 0 ≤ i ∧ i + 4 ≤ s.size ∧ 0 ≤ gi.num s i 4 ∧ gi.num s i 4 ≤ 4294967295 := by
  have h1 := gl.parts s i h
  unfold gi.okAt at h
  simp only [Bool.and_eq_true, decide_eq_true_eq] at h
  omega
theorem stp_far {s : ByteArray} {i j : Int} {p : flP.Pr} (h : stp s i = some (p, j)) : i + 1 ≤ j := by
  unfold stp at h
  split at h
  · rename_i hc
    simp only [Bool.and_eq_true, decide_eq_true_eq] at hc
    obtain ⟨_, hh, _⟩ := hc
    have hb : i + 2 ≤ gs.behind s (i + 1) := by
      unfold gs.behind
      rw [if_pos hh]
      unfold gs.here at hh
      simp only [Bool.and_eq_true, decide_eq_true_eq] at hh
      have h1 := stop_at (s := s) (i := i + 1) hh.1.1
      have h2 := at_in (s := s) (i := i + 1) hh.1.1
      omega
    split at h
    · have h3 := (Prod.mk.inj (Option.some.inj h)).2
      omega
    · split at h
      · rename_i hl
        have h3 := (Prod.mk.inj (Option.some.inj h)).2
        have h4 : gs.behind s (i + 1) + 4 ≤ gl.behind s (gs.behind s (i + 1)) := by
          generalize gs.behind s (i + 1) = q at hl ⊢
          unfold gl.behind
          rw [if_pos hl]
          unfold gl.here at hl
          simp only [Bool.and_eq_true, decide_eq_true_eq] at hl
          have h1 := stop4 (s := s) (i := q) hl.1.1
          have h2 := at4 (s := s) (i := q) hl.1.1
          omega
        omega
      · cases h
  · cases h
theorem rn_far (s : ByteArray) : ∀ (k : Nat) (i : Int) (l : List flP.Pr) (e : Int), rn s k i = some (l, e) → i + k ≤ e := by
  intro k
  induction k with
  | zero => intro i l e h; simp [rn] at h; omega
  | succ k ih =>
    intro i l e h
    unfold rn at h
    cases h1 : stp s i with
    | none => rw [h1] at h; simp at h
    | some x =>
      obtain ⟨p, j⟩ := x
      rw [h1] at h
      simp only at h
      cases h2 : rn s k j with
      | none => rw [h2] at h; simp at h
      | some y =>
        obtain ⟨m, z⟩ := y
        rw [h2] at h
        simp only [Option.some.injEq, Prod.mk.injEq] at h
        have h3 := stp_far h1
        have h4 := ih j m z h2
        omega
theorem gotL_in (s : ByteArray) : (gotL s).length ≤ s.size := by
  unfold gotL got
  split
  · cases h1 : rn s (gi.num s 0 1).toNat 1 with
    | none => simp
    | some x =>
      obtain ⟨l, e⟩ := x
      have h2 := rn_len s _ _ _ _ h1
      have h3 := rn_far s _ _ _ _ h1
      simp only
      split
      · rename_i h4
        simp only [Bool.and_eq_true, decide_eq_true_eq] at h4
        simp only [Option.getD_some]
        omega
      · simp
  · simp
theorem gotL_ok (s : ByteArray) : ∀ e ∈ gotL s, bo.okP e := by
  unfold gotL got
  split
  · cases h1 : rn s (gi.num s 0 1).toNat 1 with
    | none => intro e he; simp at he
    | some x =>
      obtain ⟨l, z⟩ := x
      simp only
      split
      · rename_i h4
        simp only [Bool.and_eq_true] at h4
        intro e he
        simp only [Option.getD_some] at he
        obtain ⟨i, hi⟩ := List.getElem?_of_mem he
        exact ((bo.okb_iff l).1 h4.2).2 i e hi
      · intro e he; simp at he
  · intro e he; simp at he
/-- whether a record stands at a place -/
noncomputable def isR (s : ByteArray) (i : Int) : Bool := gi.okAt s i 4 && (gl.here s (i + 4) && (decide (gi.num s i 4 = (cs.sum (gl.text s (i + 4)) : Int)) && gotB (gl.text s (i + 4))))
/-- its batch, and the place behind it -/
noncomputable def bat (s : ByteArray) (i : Int) : List flP.Pr := gotL (gl.text s (i + 4))
def nxt (s : ByteArray) (i : Int) : Int := gl.behind s (i + 4)
theorem isR_in {s : ByteArray} {i : Int} (h : isR s i = true) : 0 ≤ i ∧ i + 8 ≤ nxt s i ∧ nxt s i ≤ s.size := by
  unfold isR at h
  simp only [Bool.and_eq_true] at h
  obtain ⟨h1, h2, _⟩ := h
  have h3 := at4 h1
  have h4 := long_in h2
  unfold nxt
  refine ⟨h3.1, ?_, h4.2⟩
  unfold gl.behind
  rw [if_pos h2]
  unfold gl.here at h2
  simp only [Bool.and_eq_true, decide_eq_true_eq] at h2
  have h5 := stop4 (s := s) (i := i + 4) h2.1.1
  have h6 := at4 (s := s) (i := i + 4) h2.1.1
  omega
theorem bat_far {s : ByteArray} {i : Int} (h : isR s i = true) : i + 8 + (bat s i).length ≤ nxt s i := by
  unfold isR at h
  simp only [Bool.and_eq_true] at h
  obtain ⟨h1, h2, _⟩ := h
  have h0 := gotL_in (gl.text s (i + 4))
  have hb : (gl.text s (i + 4)).size + (i + 8) ≤ gl.behind s (i + 4) := by
    unfold gl.behind gl.text
    rw [if_pos h2, if_pos h2]
    unfold gl.here at h2
    simp only [Bool.and_eq_true, decide_eq_true_eq] at h2
    have h5 := stop4 (s := s) (i := i + 4) h2.1.1
    have h6 := at4 (s := s) (i := i + 4) h2.1.1
    rw [ByteArray.size_extract]
    omega
  unfold bat nxt
  omega
/-- at most so many records from a place on, and the place behind them -/
noncomputable def rcs (s : ByteArray) : Nat → Int → List (List flP.Pr) × Int
  | 0, i => ([], i)
  | k + 1, i => if isR s i = true then (bat s i :: (rcs s k (nxt s i)).1, (rcs s k (nxt s i)).2) else ([], i)
noncomputable def recs (s : ByteArray) : List (List flP.Pr) × Int := if s.size ≤ 200000 then rcs s (s.size + 1) 0 else ([], 0)
/-- behind some records -/
structure Left (s : ByteArray) (R : List (List flP.Pr)) (i : Int) : Prop where
  eq : rcs s (s.size + 1) 0 = (R ++ (rcs s (s.size + 1 - R.length) i).1, (rcs s (s.size + 1 - R.length) i).2)
  far : (8 * R.length : Nat) ≤ i
  hi : i ≤ s.size
  few : ∀ l ∈ R, l.length ≤ 60
  tot : (R.flatten.length : Int) ≤ i
  oks : ∀ l ∈ R, ∀ e ∈ l, bo.okP e
theorem left_0 (s : ByteArray) : Left s [] 0 := ⟨by simp, by simp, by omega, fun l h => (by cases h), by simp, fun l h => by cases h⟩
theorem left_yes {s : ByteArray} {R : List (List flP.Pr)} {i : Int} (h : Left s R i) (hr : isR s i = true) : Left s (R ++ [bat s i]) (nxt s i) := by
  have hin := isR_in hr
  have h1 := h.far
  have h2 := h.hi
  refine ⟨?_, by rw [List.length_append, List.length_singleton]; omega, hin.2.2, fun l hl => ?_, ?_, fun l hl => ?_⟩
  · rw [h.eq, show s.size + 1 - R.length = (s.size - R.length) + 1 by omega, show s.size + 1 - (R ++ [bat s i]).length = s.size - R.length by rw [List.length_append, List.length_singleton]; omega]
    simp only [rcs, if_pos hr, List.append_assoc, List.singleton_append]
  · rcases List.mem_append.1 hl with hl | hl
    · exact h.few l hl
    · rw [List.mem_singleton.1 hl]
      exact gotL_len _
  · have h3 := bat_far hr
    have h4 := h.tot
    simp only [List.flatten_append, List.length_append, List.flatten_cons, List.flatten_nil, List.append_nil]
    omega
  · rcases List.mem_append.1 hl with hl | hl
    · exact h.oks l hl
    · rw [List.mem_singleton.1 hl]
      exact gotL_ok _
theorem left_end {s : ByteArray} {R : List (List flP.Pr)} {i : Int} (hs : s.size ≤ 200000) (h : Left s R i) (hr : isR s i = false) : recs s = (R, i) := by
  have h1 := h.far
  have h2 := h.hi
  unfold recs
  rw [if_pos hs, h.eq, show s.size + 1 - R.length = (s.size - R.length) + 1 by omega]
  simp [rcs, hr]
theorem isR_end {s : ByteArray} {i : Int} (h : (s.size : Int) ≤ i) : isR s i = false := by
  cases hr : isR s i with
  | false => rfl
  | true => have := isR_in hr; omega
theorem recs_big {s : ByteArray} (h : 200000 < s.size) : recs s = ([], 0) := by
  unfold recs
  rw [if_neg (by omega)]
theorem left_len {s : ByteArray} {R : List (List flP.Pr)} {i : Int} (hs : s.size ≤ 200000) (h : Left s R i) : R.length ≤ 25000 := by
  have h1 := h.far
  have h2 := h.hi
  omega
theorem left_ex (s : ByteArray) (hs : s.size ≤ 200000) : ∃ i, Left s (recs s).1 i ∧ (recs s).2 = i := by
  suffices h : ∀ (d : Nat) (R : List (List flP.Pr)) (i : Int), Left s R i → s.size - i.toNat ≤ d → ∃ j, Left s (recs s).1 j ∧ (recs s).2 = j from h (s.size + 1) [] 0 (left_0 s) (by omega)
  intro d
  induction d with
  | zero =>
    intro R i h hd
    have h1 := h.far
    have h2 := left_end hs h (isR_end (by omega))
    rw [h2]
    exact ⟨i, h, rfl⟩
  | succ d ih =>
    intro R i h hd
    cases hr : isR s i with
    | false =>
      rw [left_end hs h hr]
      exact ⟨i, h, rfl⟩
    | true =>
      have h1 := isR_in hr
      exact ih _ _ (left_yes h hr) (by omega)
end Go.Proofs.YtjnfljipomjcjaaGreatDoor.rcp
