/- FnCut: the walk of the law: it returns true at every code, and turns nothing that was there. -/
import Derived.Test.YtkddnennodonhaaCutWalks
import Derived.Test.YtkddnennodonhaaDrawCut
import Derived.Test.YtkddnennodonhaaQuietIn
import Derived.Test.YtkddnennodonhaaNumPlain
namespace Go.Proofs.Ytkddnennodonhaa.cw
open Go.ChangeShapes Go.WideShapes Go.ChangeAt Go.RowKit Go.Proofs.Ytkddnennodonhaa.sm
set_option linter.unusedVariables false

theorem same_strs (l : List ByteArray) (g g' c c' : Nat) (w : World) (hl : l.length ≤ 2000000) (ha : Has w g c l) (hb : Has w g' c' l) :
    Calls Try.prog 32 #[.slice (some ⟨g, 0, none⟩) l.length c, .slice (some ⟨g', 0, none⟩) l.length c'] w fun e w' => e = .returned (.bool true) ∧ Below w.heap.size w w' := by
  have HA : Hid (Has w g c l) := ha
  have HB : Hid (Has w g' c' l) := hb
  clear ha hb
  go_enter Try.func32, Try.ntmps32
  go_wp2
  go_loopw [5] (fun x wr => ∃ k : Nat, k ≤ l.length ∧ x = .int .i64 k ∧ Below w.heap.size w wr) (fun x _ => l.length - (intOf x).toNat)
  case atStart => exact ⟨0, Nat.zero_le _, rfl, Below.refl _ _⟩
  case round =>
    obtain ⟨k, hk, rfl, hbel⟩ := hrel
    by_cases hkl : k < l.length
    · have ca := (HA.out.below hbel HA.out.lt).cell k hkl
      have cb := (HB.out.below hbel HB.out.lt).cell k hkl
      obtain ⟨x, hx⟩ : ∃ x, l.getD k ByteArray.empty = x := ⟨_, rfl⟩
      rw [hx] at ca cb
      clear hx
      go_wp2
      go_region
      all_goals go_wp2
      all_goals go_roundw
      all_goals first | exact ⟨k + 1, by omega, by go_num, hbel.drew⟩ | (simp [intOf]; omega)
    · obtain rfl : k = l.length := by omega
      go_wp2
      go_ret
      exact ⟨rfl, hbel⟩

theorem same_zero (a a' : Option Addr) (c c' : Nat) (w : World) : Calls Try.prog 32 #[.slice a 0 c, .slice a' 0 c'] w fun e w' => e = .returned (.bool true) ∧ w = w' := by
  go_enter Try.func32, Try.ntmps32
  go_wp2
  go_loop [5] (fun x => x = .int .i64 0) (fun _ => 0)
  case atStart => rfl
  case round =>
    subst hrel
    go_wp2
    go_ret
    exact ⟨rfl, rfl⟩

theorem big_no (a : Option Addr) (len cap : Nat) (w : World) (h : len ≤ 1048576) : Calls Try.prog 17 #[.slice a len cap] w fun e w' => e = .returned (.bool false) ∧ w = w' := by
  have hd : decide ((1048576 : Int) < (len : Int)) = false := by simp; omega
  go_enter Try.func17, Try.ntmps17
  go_wp2
  go_ret
  exact ⟨by simp, rfl⟩
theorem rowed_pcs {w : World} {B m n : Nat} {v : Value} {s : ByteArray} (hm : m ≠ 0) (h : ct.Rowed w B v (ct.pcs s n m)) : ∃ g cap, v = .slice (some ⟨g, 0, none⟩) m cap ∧ B ≤ g ∧ Has w g cap (ct.pcs s n m) := by
  have hne : ct.pcs s n m ≠ [] := fun e => hm (by have := ct.pcs_length s n m; rw [e] at this; simpa using this.symm)
  obtain ⟨g, cap, hv, hg, hh⟩ := ct.rowed_cons hne h
  rw [ct.pcs_length] at hv
  exact ⟨g, cap, hv, hg, hh⟩
theorem same_pcs (s : ByteArray) (n m g g' c c' : Nat) (w : World) (hl : m ≤ 2000000) (ha : Has w g c (ct.pcs s n m)) (hb : Has w g' c' (ct.pcs s n m)) :
    Calls Try.prog 32 #[.slice (some ⟨g, 0, none⟩) m c, .slice (some ⟨g', 0, none⟩) m c'] w fun e w' => e = .returned (.bool true) ∧ Below w.heap.size w w' := by
  have h := same_strs (ct.pcs s n m) g g' c c' w (by rw [ct.pcs_length]; exact hl) ha hb
  rw [ct.pcs_length] at h
  exact h
/-- what stands ahead of piece k -/
def ahead (s : ByteArray) (z k : Nat) : ByteArray := s.extract 0 (min (k * z) s.size)
theorem ahead_succ (s : ByteArray) (z k : Nat) (h : k * z < s.size) : ahead s z k ++ ct.piece s z k = ahead s z (k + 1) := by
  have e : (k + 1) * z = k * z + z := by rw [Nat.add_mul, Nat.one_mul]
  unfold ahead ct.piece
  rw [e, show min (k * z) s.size = k * z by omega]
  exact np.extract_join s 0 (k * z) _ (Nat.zero_le _) (by omega)
theorem ahead_zero (s : ByteArray) (z : Nat) : ahead s z 0 = ⟨#[]⟩ := by
  refine ct.empty_of ?_
  unfold ahead
  rw [ByteArray.size_extract]
  omega
theorem ahead_all (s : ByteArray) (z k : Nat) (h : ¬ k * z < s.size) : ahead s z k = s := by
  unfold ahead
  rw [show min (k * z) s.size = s.size by omega]
  exact ct.ext_all s

set_option maxRecDepth 100000 in
set_option maxHeartbeats 4000000 in
theorem walk (a0 : Option Addr) (len0 cap0 : Nat) (w : World) (hcode : dw.Code w w.heap.size a0 len0) :
    Calls Try.prog 4 #[.slice a0 len0 cap0] w fun e w' => e = .returned (.bool true) ∧ Below w.heap.size w w' := by
  by_cases hbig : (1048576 : Int) < len0
  · clear hcode
    go_enter Try.func4, Try.ntmps4
    go_wp2
    go_ret
    exact ⟨rfl, Below.refl _ _⟩
  have hlen : len0 ≤ 1048576 := by omega
  have hdraw := dc.draw_Cut a0 len0 cap0 w hlen hcode
  clear hcode
  go_enter Try.func4, Try.ntmps4
  go_wp2_with (first | (go_at_call 17; refine (big_no a0 len0 cap0 w hlen).mono ?_; rintro e w' ⟨rfl, rfl⟩) | (go_at_call 30; refine hdraw.mono ?_; rintro e w1 ⟨⟨s, z, hs, hz1, hz2, rfl⟩, hb1⟩))
  have himpl := ct.impl_all s z w1 (by omega)
  have hspec := fun W => ct.spec_all s z W (by omega)
  have hclen := ct.cuts_length s z
  by_cases hz : 1 ≤ z ∧ z ≤ 4000
  · obtain ⟨n, rfl⟩ := Int.eq_ofNat_of_zero_le (show 0 ≤ z by omega)
    have hcuts : ct.cuts s n = ct.pcs s n (ct.count s n) := by unfold ct.cuts; rw [if_pos hz]; simp
    rw [hcuts] at himpl hclen
    simp only [hcuts] at hspec
    clear hcuts
    have hmn := ct.count_lt (s := s) (z := n) (by omega)
    obtain ⟨m, hm⟩ : ∃ m, ct.count s n = m := ⟨_, rfl⟩
    rw [hm] at himpl hclen hmn
    simp only [hm] at hspec
    rw [ct.pcs_length] at hclen
    clear hm
    have HN : Hid (∀ k, k < m ↔ k * n < s.size) := hmn
    clear hmn
    by_cases hnil : m = 0
    · subst hnil
      have hsz : s.size = 0 := by
        have := HN.out 0
        omega
      have e0 : ct.pcs s n 0 = [] := rfl
      rw [e0] at himpl
      simp only [e0] at hspec
      obtain rfl := ct.empty_of hsz
      clear HN e0 hclen
      go_wp2_with (first | (go_at_call 31; refine himpl.mono ?_; rintro e w2 ⟨⟨v2, rfl, hv2⟩, hb2⟩; obtain ⟨a2, c2, rfl⟩ := ct.rowed_nil hv2) | (go_at_call 33; refine (hspec w2).mono ?_; rintro e w3 ⟨⟨v3, rfl, hv3⟩, hb3⟩; obtain ⟨a3, c3, rfl⟩ := ct.rowed_nil hv3) | (go_at_call 32; refine (same_zero _ _ _ _ _).mono ?_; rintro e _ ⟨rfl, rfl⟩))
      go_loop [6, 7] (fun y x => x = .int .i64 0 ∧ y = .string ⟨#[]⟩) (fun _ _ => 0)
      case atStart => exact ⟨rfl, rfl⟩
      case round =>
        obtain ⟨rfl, rfl⟩ := hrel
        go_wp2
        go_ret
        exact ⟨rfl, (hb1.trans (hb2.mono hb1.size)).trans (hb3.mono (Nat.le_trans hb1.size hb2.size))⟩
    · go_wp2_with (first | (go_at_call 31; refine himpl.mono ?_; rintro e w2 ⟨⟨v2, rfl, hv2⟩, hb2⟩; obtain ⟨g2, c2, rfl, hg2, hh2⟩ := rowed_pcs hnil hv2) | (go_at_call 33; refine (hspec w2).mono ?_; rintro e w3 ⟨⟨v3, rfl, hv3⟩, hb3⟩; obtain ⟨g3, c3, rfl, hg3, hh3⟩ := rowed_pcs hnil hv3; have hh23 := hh2.below hb3 hh2.lt) | (go_at_call 32; refine (same_pcs s n m g2 g3 c2 c3 w3 (by omega) hh23 hh3).mono ?_; rintro e w4 ⟨rfl, hb4⟩))
      have HH : Hid (Has w4 g2 c2 (ct.pcs s n m)) := hh23.below hb4 hh23.lt
      have hb14 : Below w.heap.size w w4 := ((hb1.trans (hb2.mono hb1.size)).trans (hb3.mono (Nat.le_trans hb1.size hb2.size))).trans (hb4.mono (Nat.le_trans hb1.size (Nat.le_trans hb2.size hb3.size)))
      clear himpl hspec hv2 hv3 hh2 hh3 hh23 hdraw
      go_loopw [6, 7] (fun y x wr => ∃ k : Nat, k ≤ m ∧ x = .int .i64 k ∧ y = .string (ahead s n k) ∧ wr = w4) (fun _ x _ => m - (intOf x).toNat)
      case atStart => exact ⟨0, Nat.zero_le _, rfl, by rw [ahead_zero], rfl⟩
      case round =>
        obtain ⟨k, hk, rfl, rfl, rfl⟩ := hrel
        by_cases hkm : k < m
        · have hc := HH.out.cell k (by rw [ct.pcs_length]; exact hkm)
          have hgd : (ct.pcs s n m).getD k ByteArray.empty = ct.piece s n k := by simp [ct.pcs, List.getD, hkm]
          rw [hgd] at hc
          have h1 := (HN.out k).1 hkm
          have hsz : (ct.piece s n k).size = min (k * n + n) s.size - k * n := by unfold ct.piece; rw [ByteArray.size_extract]; omega
          have hnx := ahead_succ s n k h1
          have has : (ahead s n k).size ≤ 30 := by unfold ahead; rw [ByteArray.size_extract]; omega
          have hfull : k + 1 < m → (ct.piece s n k).size = n := fun h => by
            have h2 := (HN.out (k + 1)).1 h
            rw [Nat.add_mul, Nat.one_mul] at h2
            omega
          obtain ⟨p, hp⟩ : ∃ p, ct.piece s n k = p := ⟨_, rfl⟩
          obtain ⟨q, hq⟩ : ∃ q, ahead s n k = q := ⟨_, rfl⟩
          rw [hp] at hc hsz hnx hfull
          rw [hq] at hnx has ⊢
          have hp1 : 1 ≤ p.size := by omega
          have hpn : p.size ≤ n := by omega
          obtain ⟨hpe, hpf⟩ := ct.not_empty hp1
          have HX : Hid (q ++ p = ahead s n (k + 1)) := hnx
          clear hgd h1 hsz hnx hp hq
          by_cases hlast : k + 1 < m
          · have hpz := hfull hlast
            have hpz2 : ((p.size : Int) < (n : Int)) = False := eq_false (by omega)
            clear hfull hpz
            go_wp2
            go_roundw
            case rel => exact ⟨k + 1, by omega, by go_num, by rw [HX.out], trivial⟩
            case measure => simp [intOf]; omega
          · clear hfull
            go_wp2
            go_roundw
            case rel => exact ⟨k + 1, by omega, by go_num, by rw [HX.out], trivial⟩
            case measure => simp [intOf]; omega
        · obtain rfl : k = m := by omega
          have hall := ahead_all s n k (fun h => hkm ((HN.out k).2 h))
          rw [hall]
          clear hall
          go_wp2
          go_ret
          exact ⟨by simp, hb14⟩
  · have hcuts : ct.cuts s z = [] := by unfold ct.cuts; rw [if_neg hz]
    rw [hcuts] at himpl
    simp only [hcuts] at hspec
    clear hcuts hclen
    have hz' : z < 1 ∨ 1 ≤ z ∧ 4000 < z := by omega
    rcases hz' with hz' | ⟨hz', hz''⟩
    · go_wp2_with (first | (go_at_call 31; refine himpl.mono ?_; rintro e w2 ⟨⟨v2, rfl, hv2⟩, hb2⟩; obtain ⟨a2, c2, rfl⟩ := ct.rowed_nil hv2) | (go_at_call 33; refine (hspec w2).mono ?_; rintro e w3 ⟨⟨v3, rfl, hv3⟩, hb3⟩; obtain ⟨a3, c3, rfl⟩ := ct.rowed_nil hv3) | (go_at_call 32; refine (same_zero _ _ _ _ _).mono ?_; rintro e _ ⟨rfl, rfl⟩))
      all_goals go_ret
      all_goals exact ⟨rfl, (hb1.trans (hb2.mono hb1.size)).trans (hb3.mono (Nat.le_trans hb1.size hb2.size))⟩
    · go_wp2_with (first | (go_at_call 31; refine himpl.mono ?_; rintro e w2 ⟨⟨v2, rfl, hv2⟩, hb2⟩; obtain ⟨a2, c2, rfl⟩ := ct.rowed_nil hv2) | (go_at_call 33; refine (hspec w2).mono ?_; rintro e w3 ⟨⟨v3, rfl, hv3⟩, hb3⟩; obtain ⟨a3, c3, rfl⟩ := ct.rowed_nil hv3) | (go_at_call 32; refine (same_zero _ _ _ _ _).mono ?_; rintro e _ ⟨rfl, rfl⟩))
      all_goals go_ret
      all_goals exact ⟨rfl, (hb1.trans (hb2.mono hb1.size)).trans (hb3.mono (Nat.le_trans hb1.size hb2.size))⟩
end Go.Proofs.Ytkddnennodonhaa.cw
