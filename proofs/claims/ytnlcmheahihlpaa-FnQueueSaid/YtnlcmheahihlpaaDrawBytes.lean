/- The specification's draw of a text: some text of the length that was asked for. -/
import Derived.Test.YtnlcmheahihlpaaDrawBase
namespace Go.Proofs.Ytnlcmheahihlpaa.dw
open Go.ChangeShapes Go.WideShapes Go.ChangeAt Go.RowKit

theorem infoByte : (Try.prog.info? 5).map (fun i => (i.zero, i.size, i.bytes)) = some (some (.int .u8 0), 1, 1) := by kernel_rfl

theorem owns_on {w wr w1 : World} {p k : Nat} {v : Value} {xs : List Value} (h : wr.ownsRow w.heap.size 5 1 v k xs) (hb : On p wr w1) (hp : p < w.heap.size) : w1.ownsRow w.heap.size 5 1 v k xs := by
  refine h.kept hb ?_
  cases hv : v.ownBlock with
  | none => exact .inl rfl
  | some g =>
    right
    have := (h.lt g hv).1
    simp
    omega

set_option maxRecDepth 100000 in
theorem draw_bytes (p : Nat) (a : Option Addr) (len cap n : Nat) (w : World) (hn : n ≤ 10000) (hc : Cur w p a len cap) :
    Calls Try.prog 48 #[.pointer (some ⟨p, 0, none⟩), .int .i64 n] w fun e w' => (∃ s : ByteArray, s.size = n ∧ e = .returned (.string s)) ∧ Cur w' p a len cap ∧ On p w w' := by
  obtain ⟨i0, hi, hz0, hz1, hz2⟩ := info_parts infoByte
  have hp := hc.lt
  have HC : Hid (Cur w p a len cap) := hc
  clear hc
  go_enter Try.func48, Try.ntmps48
  go_wp2
  go_loopw [5, 6] (fun v y wr => ∃ (k : Nat) (zs : List Int), k ≤ n ∧ zs.length = k ∧ y = .int .i64 k ∧ wr.ownsRow w.heap.size 5 1 v k (zs.map (Value.int .u8)) ∧ Hid (Cur wr p a len cap) ∧ On p w wr ∧ w.heap.size ≤ wr.heap.size) (fun _ y _ => n - (intOf y).toNat)
  case atStart => exact ⟨0, [], Nat.zero_le _, rfl, rfl, World.ownsRow_made w _ 0 (Nat.le_refl _) (Nat.zero_le _) rfl, HC.out.alloc _, (On.refl _ _).alloc _, by show w.heap.size ≤ (w.heap.push _).size; simp⟩
  case round =>
    obtain ⟨k, zs, hk, hzl, rfl, hown, hcur, hon, hsz⟩ := hrel
    by_cases hkn : k < n
    · have h1 := draw_below p a len cap 256 wr (by omega) hcur.out
      have HO : Hid (wr.ownsRow w.heap.size 5 1 u5 k (zs.map (Value.int .u8))) := hown
      clear hown
      have hpw := hcur.out.lt
      go_wp2_with (first | (go_at_call 49; refine h1.mono ?_; rintro e w1 ⟨⟨x, hx, rfl⟩, hc1, hb1⟩; have hown1 := owns_on HO.out hb1 hp) | (at_builtin; refine wpList_append_own _ rfl _ _ 22 rfl w.heap.size 5 i0 (.int .u8 0) 1 1 Try.underlying22 hi hz0 hz1 hz2 rfl (by decide) _ _ _ rfl (hown1.alloc _) ⟨w1.heap.size, 0, none⟩ 1 1 [.int .u8 x] rfl rfl ?c1 ?c2 ?c3 ?c4 ?c5 ?_))
      case c1 => exact cell_one_new _ _ _
      case c2 => intro u hu; simp at hu; subst hu; rfl
      case c3 => unfold maxLen; omega
      case c4 => omega
      case c5 => have := hb1.size; simp; omega
      intro v' w2 hown2 hgrow _
      have hsz1 := hb1.size
      have hrow : ∀ k', u5.ownBlock = some k' → w.heap.size ≤ k' := fun k' hk' => (hown1.lt k' hk').1
      have hon2 : On p w w2 := ((hon.trans hb1).alloc _).grown hgrow hrow
      have hcur2 : Hid (Cur w2 p a len cap) := (hc1.alloc (.cells #[.int .u8 x] 5)).grown hgrow (fun k' hk' => by have := hrow k' hk'; omega)
      have hown3 : w2.ownsRow w.heap.size 5 1 v' (k + 1) ((zs ++ [(x : Int)]).map (Value.int .u8)) := by simpa using hown2
      have hsz2 : w.heap.size ≤ w2.heap.size := hon2.size
      clear hown1 hown2 hgrow hb1 hc1 hon hcur HO hrow
      go_wp2
      go_roundw
      case rel => exact ⟨k + 1, zs ++ [(x : Int)], by omega, by simp [hzl], by go_num, hown3, hcur2, hon2, hsz2⟩
      case measure => simp [intOf]; omega
    · obtain rfl : k = n := by omega
      obtain ⟨_, hown⟩ := hown
      rcases hown with ⟨rfl, h0⟩ | ⟨g, capx, cur, rfl, hb, hg, h1, h2, h3, h4⟩
      · have hcv := run_convert_bytes_nil (P := Try.prog) wr 22 5 Try.underlying22 Try.underlying5 0 0 9 Try.underlying9
        go_wp2
        go_ret
        exact ⟨⟨_, by rw [h0]; rfl, rfl⟩, hcur.out, hon⟩
      · have hcell : ∀ i, i < k → wr.cell? ⟨g, 0 + i, none⟩ = some (.int .u8 (zs.getD i 0)) := fun i hi' => by
          have hiz : i < zs.length := by omega
          have h5 : cur.toList[i]? = some (.int .u8 zs[i]) := by
            have h6 := congrArg (fun x => x[i]?) h4
            simp only [Nat.mul_one, List.getElem?_take_of_lt hi', List.getElem?_map, List.getElem?_eq_getElem hiz, Option.map_some] at h6
            exact h6
          have h7 : cur[i]? = some (.int .u8 zs[i]) := by rw [← Array.getElem?_toList]; exact h5
          simp [World.cell?, hg, h7, List.getD, List.getElem?_eq_getElem hiz]
        have hcv := run_convert_bytes_arg (P := Try.prog) wr 22 5 Try.underlying22 Try.underlying5 g 0 k capx zs hzl hcell 9 Try.underlying9
        clear hcell h4 hg
        go_wp2
        go_ret
        exact ⟨⟨strOfNums zs, by rw [strOfNums_size, hzl], rfl⟩, hcur.out, hon⟩
end Go.Proofs.Ytnlcmheahihlpaa.dw
