/- Lists of lists of pairs as they lie; the laws' look at two of them beside each other. -/
import Derived.Test.YtlgcciaebkfnjaaGreatDoorFlPair
namespace Go.Proofs.YtlgcciaebkfnjaaGreatDoor.rn
open Go.ChangeShapes Go.WideShapes Go.ChangeAt Go.RowKit Go.Proofs.YtlgcciaebkfnjaaGreatDoor.fl
set_option linter.unusedVariables false

/-- a run as it lies: where, its room, its pairs -/
structure Rn where
  a : Option Addr
  c : Nat
  l : List flP.Pr
def cR (r : Rn) : List Value := [.slice r.a r.l.length r.c]
theorem cR_len (r : Rn) : (cR r).length = 1 := rfl
/-- a list of runs as it lies -/
def VR (w : World) (B : Nat) (a : Option Addr) (rs : List Rn) : Prop := Row cR 1 w B a rs ∧ ∀ r ∈ rs, Row flP.c 3 w B r.a r.l
theorem VR.inn {w w' : World} {a : Option Addr} {rs : List Rn} (h : VR w w.heap.size a rs) (hb : Below w.heap.size w w') : VR w' w'.heap.size a rs := ⟨h.1.inn hb, fun r hr => (h.2 r hr).inn hb⟩
set_option maxRecDepth 100000 in
set_option maxHeartbeats 1000000 in
theorem eq_runs (l l' : List Rn) (a a' : Option Addr) (ca ca' : Nat) (w : World) (hl : l.length ≤ maxLen) (hx : ∀ e ∈ l, e.l.length ≤ maxLen) (hm : l.map (·.l) = l'.map (·.l)) (ha : VR w w.heap.size a l) (hb : VR w w.heap.size a' l') :
    Calls Tryz.prog 107 #[.slice a l.length ca, .slice a' l.length ca'] w fun e w' => e = .returned (.bool true) ∧ Below w.heap.size w w' := by
  have hl' := hl
  unfold maxLen at hl'
  have hll : l'.length = l.length := by have := congrArg List.length hm; simpa using this.symm
  have nilw : ∀ a a' : Option Addr, Calls Tryz.prog 107 #[.slice a 0 ca, .slice a' 0 ca'] w fun e w' => e = .returned (.bool true) ∧ Below w.heap.size w w' := fun a a' => by
    go_enter Tryz.func107, Tryz.ntmps107
    go_wp2
    refine wp_loop_rounds 1 ?_
    rw [rounds_succ]
    go_wp2
    go_ret
    exact ⟨rfl, Below.refl _ _⟩
  have HVA : Hid (∀ r ∈ l, Row flP.c 3 w w.heap.size r.a r.l) := ha.2
  have HVB : Hid (∀ r ∈ l', Row flP.c 3 w w.heap.size r.a r.l) := hb.2
  rcases ha.1 with rfl | ⟨b, off, rfl, hlt, hc⟩
  · exact nilw a a'
  rcases hb.1 with rfl | ⟨b', off_, rfl, hlt', hc'⟩
  · simp at hll
    rw [show l.length = 0 by omega]
    exact nilw _ _
  · have HA : Hid (∀ (i : Nat) (e : Rn), l[i]? = some e → ∀ (j : Nat) (v : Value), (cR e)[j]? = some v → w.cell? ⟨b, off + i * 1 + j, none⟩ = some v) := hc
    have HB : Hid (∀ (i : Nat) (e : Rn), l'[i]? = some e → ∀ (j : Nat) (v : Value), (cR e)[j]? = some v → w.cell? ⟨b', off_ + i * 1 + j, none⟩ = some v) := hc'
    have HX : Hid (∀ e ∈ l, e.l.length ≤ maxLen) := hx
    have HM : Hid (∀ (k : Nat) (r s : Rn), l[k]? = some r → l'[k]? = some s → r.l = s.l) := fun k r s h1 h2 => by
      have h3 : (l.map (·.l))[k]? = (l'.map (·.l))[k]? := by rw [hm]
      rw [List.getElem?_map, List.getElem?_map, h1, h2] at h3
      simpa using h3
    have HLL : Hid (l'.length = l.length) := hll
    clear hc hc' nilw hx ha hb hm hll
    go_enter Tryz.func107, Tryz.ntmps107
    go_wp2
    go_loopw [5] (fun x wr => ∃ k : Nat, k ≤ l.length ∧ x = .int .i64 k ∧ Below w.heap.size w wr) (fun x _ => l.length - (intOf x).toNat)
    case atStart => exact ⟨0, Nat.zero_le _, rfl, Below.refl _ _⟩
    case round =>
      obtain ⟨k, hk, rfl, hbel⟩ := hrel
      have hbs := hbel.size
      by_cases hkl : k < l.length
      · have hkl' : k < l'.length := by have := HLL.out; omega
        have HG : Hid (l[k]? = some l[k]) := List.getElem?_eq_getElem hkl
        have HG' : Hid (l'[k]? = some l'[k]) := List.getElem?_eq_getElem hkl'
        have hxs := HX.out l[k] (List.getElem_mem hkl)
        have hrow := (HVA.out l[k] (List.getElem_mem hkl)).inn hbel.drew
        have hrow' := (HVB.out l'[k] (List.getElem_mem hkl')).inn hbel.drew
        obtain ⟨⟨ra, rc, rl⟩, he⟩ : ∃ e, l[k] = e := ⟨_, rfl⟩
        obtain ⟨⟨sa, sc, sl⟩, he'⟩ : ∃ e, l'[k] = e := ⟨_, rfl⟩
        rw [he] at HG hxs hrow
        rw [he'] at HG' hrow'
        have hsame : rl = sl := HM.out k _ _ HG.out HG'.out
        subst hsame
        have c0 : wr.cell? ⟨b, off + k, none⟩ = some (.slice ra rl.length rc) := (hbel.cell (p := ⟨b, off + k, none⟩) hlt).trans (by have := HA.out k _ HG.out 0 _ rfl; simpa using this)
        have c1 : wr.cell? ⟨b', off_ + k, none⟩ = some (.slice sa rl.length sc) := (hbel.cell (p := ⟨b', off_ + k, none⟩) hlt').trans (by have := HB.out k _ HG'.out 0 _ rfl; simpa using this)
        have hone := flP.eq_all rl ra sa rc sc wr.drew hxs hrow hrow'
        have i2 : (k : Int) < (l.length : Int) := by omega
        clear he he' hrow hrow' hxs hkl'
        go_wp2
        go_region_with (go_at_call 106; refine hone.mono ?_; rintro e w1 ⟨rfl, hb1⟩)
        all_goals go_wp2
        all_goals go_roundw
        all_goals first | exact ⟨k + 1, by omega, by go_num, hbel.drew.trans (hb1.mono hbs)⟩ | (simp [intOf]; omega)
      · obtain rfl : k = l.length := by omega
        go_wp2
        go_ret
        exact ⟨rfl, hbel⟩
end Go.Proofs.YtlgcciaebkfnjaaGreatDoor.rn
