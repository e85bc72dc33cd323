/- The specification's look for a name among queues and among streams; new memory alone. -/
import Derived.Test.YtpkljkahdclcgaaGreatCorePure
namespace Go.Proofs.YtpkljkahdclcgaaGreat.qu
open Go.ChangeShapes Go.WideShapes Go.ChangeAt Go.RowKit Go.Proofs.YtpkljkahdclcgaaGreat.rc Go.Proofs.YtpkljkahdclcgaaGreat.rr Go.Proofs.YtpkljkahdclcgaaGreat.ro Go.Proofs.YtpkljkahdclcgaaGreat.fl
set_option linter.unusedVariables false

set_option maxRecDepth 100000 in
set_option maxHeartbeats 1000000 in
theorem spec_at (l : List E) (a xa ya za : Option Addr) (cap xn xc yn yc zn zc : Nat) (name : ByteArray) (w : World) (hl : l.length ≤ 1048576) (hE : Row c 4 w w.heap.size a l) :
    Calls Tryz.prog 52 #[.agg #[.slice xa xn xc, .slice ya yn yc, .slice a l.length cap, .slice za zn zc], .string name] w fun r w' => r = .returned (.int .i64 (place l name)) ∧ Below w.heap.size w w' := by
  have hb : Below w.heap.size w (w.alloc (.cells #[.slice xa xn xc, .slice ya yn yc, .slice a l.length cap, .slice za zn zc] 39)) := (Below.refl _ _).alloc (Nat.le_refl _) _
  have hA := bnew w #[.slice xa xn xc, .slice ya yn yc, .slice a l.length cap, .slice za zn zc] 39
  have c0 : (w.alloc (.cells #[.slice xa xn xc, .slice ya yn yc, .slice a l.length cap, .slice za zn zc] 39)).cell? ⟨w.heap.size, 2, none⟩ = some (.slice a l.length cap) := bcell hA rfl
  have hE2 := hE.inn hb
  obtain ⟨W, hW⟩ : ∃ W, w.alloc (.cells #[.slice xa xn xc, .slice ya yn yc, .slice a l.length cap, .slice za zn zc] 39) = W := ⟨_, rfl⟩
  rw [hW] at hb hE2 c0
  clear hE hA
  rcases hE2 with rfl | ⟨b, off, rfl, hlt, hc⟩
  · go_enter Tryz.func52, Tryz.ntmps52
    go_wp2
    refine wp_loop_rounds 1 ?_
    rw [rounds_succ]
    go_wp2
    go_ret
    exact ⟨rfl, (Below.refl _ _).alloc (Nat.le_refl _) _⟩
  · have HC : Hid (∀ (i : Nat) (e : E), l[i]? = some e → ∀ (j : Nat) (v : Value), (c e)[j]? = some v → W.cell? ⟨b, off + i * 4 + j, none⟩ = some v) := hc
    clear hc
    go_enter Tryz.func52, Tryz.ntmps52
    go_wp2
    clear hW
    go_loop [5] (fun v => ∃ k : Nat, k ≤ l.length ∧ v = .int .i64 k ∧ Hid (∀ (j : Nat) f, j < k → l[j]? = some f → f.nm ≠ name)) (fun v => l.length - (intOf v).toNat)
    case atStart => exact ⟨0, Nat.zero_le _, rfl, fun j f hj => by omega⟩
    case round =>
      obtain ⟨k, hk, rfl, hno⟩ := hrel
      by_cases hkl : k < l.length
      · have HG : Hid (l[k]? = some l[k]) := List.getElem?_eq_getElem hkl
        obtain ⟨⟨nm, nx, ra, rc, rs, ha, hc, hs⟩, he⟩ : ∃ e, l[k] = e := ⟨_, rfl⟩
        rw [he] at HG
        have cn : W.cell? ⟨b, off + k * 4, none⟩ = some (.string nm) := by have := HC.out k _ HG.out 0 _ rfl; simpa using this
        clear he
        by_cases hen : nm = name
        · subst hen
          have hfin := place_at hno.out HG.out rfl
          go_wp2
          go_ret
          exact ⟨rfl, hb⟩
        · have n1 := ne_of hen
          have n2 : ¬ nm.toList = name.toList := by simpa using n1
          go_wp2
          go_round
          case rel =>
            refine ⟨k + 1, by omega, by go_num, fun j f hj hf => ?_⟩
            by_cases e : j = k
            · subst e
              rw [HG.out] at hf
              cases hf
              exact hen
            · exact hno.out j f (by omega) hf
          case measure => simp [intOf]; omega
      · obtain rfl : k = l.length := by omega
        have hfin := place_none (l := l) (name := name) (fun j f hf => hno.out j f (List.getElem?_eq_some_iff.1 hf).1 hf)
        go_wp2
        go_ret
        exact ⟨rfl, hb⟩
end Go.Proofs.YtpkljkahdclcgaaGreat.qu
namespace Go.Proofs.YtpkljkahdclcgaaGreat.su
open Go.ChangeShapes Go.WideShapes Go.ChangeAt Go.RowKit Go.Proofs.YtpkljkahdclcgaaGreat.rc Go.Proofs.YtpkljkahdclcgaaGreat.rr Go.Proofs.YtpkljkahdclcgaaGreat.ro Go.Proofs.YtpkljkahdclcgaaGreat.fl
set_option linter.unusedVariables false

set_option maxRecDepth 100000 in
set_option maxHeartbeats 1000000 in
theorem spec_at (l : List E) (a xa ya za : Option Addr) (cap xn xc yn yc zn zc : Nat) (name : ByteArray) (w : World) (hl : l.length ≤ 1048576) (hE : Row c 5 w w.heap.size a l) :
    Calls Tryz.prog 34 #[.agg #[.slice xa xn xc, .slice ya yn yc, .slice za zn zc, .slice a l.length cap], .string name] w fun r w' => r = .returned (.int .i64 (place l name)) ∧ Below w.heap.size w w' := by
  have hb : Below w.heap.size w (w.alloc (.cells #[.slice xa xn xc, .slice ya yn yc, .slice za zn zc, .slice a l.length cap] 39)) := (Below.refl _ _).alloc (Nat.le_refl _) _
  have hA := bnew w #[.slice xa xn xc, .slice ya yn yc, .slice za zn zc, .slice a l.length cap] 39
  have c0 : (w.alloc (.cells #[.slice xa xn xc, .slice ya yn yc, .slice za zn zc, .slice a l.length cap] 39)).cell? ⟨w.heap.size, 3, none⟩ = some (.slice a l.length cap) := bcell hA rfl
  have hE2 := hE.inn hb
  obtain ⟨W, hW⟩ : ∃ W, w.alloc (.cells #[.slice xa xn xc, .slice ya yn yc, .slice za zn zc, .slice a l.length cap] 39) = W := ⟨_, rfl⟩
  rw [hW] at hb hE2 c0
  clear hE hA
  rcases hE2 with rfl | ⟨b, off, rfl, hlt, hc⟩
  · go_enter Tryz.func34, Tryz.ntmps34
    go_wp2
    refine wp_loop_rounds 1 ?_
    rw [rounds_succ]
    go_wp2
    go_ret
    exact ⟨rfl, (Below.refl _ _).alloc (Nat.le_refl _) _⟩
  · have HC : Hid (∀ (i : Nat) (e : E), l[i]? = some e → ∀ (j : Nat) (v : Value), (c e)[j]? = some v → W.cell? ⟨b, off + i * 5 + j, none⟩ = some v) := hc
    clear hc
    go_enter Tryz.func34, Tryz.ntmps34
    go_wp2
    clear hW
    go_loop [5] (fun v => ∃ k : Nat, k ≤ l.length ∧ v = .int .i64 k ∧ Hid (∀ (j : Nat) f, j < k → l[j]? = some f → f.nm ≠ name)) (fun v => l.length - (intOf v).toNat)
    case atStart => exact ⟨0, Nat.zero_le _, rfl, fun j f hj => by omega⟩
    case round =>
      obtain ⟨k, hk, rfl, hno⟩ := hrel
      by_cases hkl : k < l.length
      · have HG : Hid (l[k]? = some l[k]) := List.getElem?_eq_getElem hkl
        obtain ⟨⟨nm, lo, nx, ra, rc, rs, ha, hc, hs⟩, he⟩ : ∃ e, l[k] = e := ⟨_, rfl⟩
        rw [he] at HG
        have cn : W.cell? ⟨b, off + k * 5, none⟩ = some (.string nm) := by have := HC.out k _ HG.out 0 _ rfl; simpa using this
        clear he
        by_cases hen : nm = name
        · subst hen
          have hfin := place_at hno.out HG.out rfl
          go_wp2
          go_ret
          exact ⟨rfl, hb⟩
        · have n1 := ne_of hen
          have n2 : ¬ nm.toList = name.toList := by simpa using n1
          go_wp2
          go_round
          case rel =>
            refine ⟨k + 1, by omega, by go_num, fun j f hj hf => ?_⟩
            by_cases e : j = k
            · subst e
              rw [HG.out] at hf
              cases hf
              exact hen
            · exact hno.out j f (by omega) hf
          case measure => simp [intOf]; omega
      · obtain rfl : k = l.length := by omega
        have hfin := place_none (l := l) (name := name) (fun j f hf => hno.out j f (List.getElem?_eq_some_iff.1 hf).1 hf)
        go_wp2
        go_ret
        exact ⟨rfl, hb⟩
end Go.Proofs.YtpkljkahdclcgaaGreat.su
