/- append(s, make(S, n)...) where it must grow: a new row with s's cells, then zero values. -/
import Derived.Test.YtnooibeohdfcmaaGreatDoorRows
import Derived.WalkKit
import Derived.WalkLawsBesides
import Derived.WalkSpells
import Derived.ProofKit
import Derived.OpenShut
import Derived.ShutString
import Derived.Lib.ItoaNum
import Derived.Test.YtnooibeohdfcmaaGreatDoorRw06
import Derived.Test.YtnooibeohdfcmaaGreatDoorFlatOwn
import Derived.Laws.Append

/- The specification's writer of a decimal number answers the library's own numeral at every int; no world is changed. -/
namespace Go.Proofs.YtnooibeohdfcmaaGreatDoor.dt
open Go.ChangeShapes Go.WideShapes Go.ChangeAt Go.RowKit

/-- the numeral of what is left: nothing for 0 -/
def pre (a : Nat) : List UInt8 := if a = 0 then [] else Lib.decDigits a
theorem pre_step {a : Nat} (h : a ≠ 0) : pre a = pre (a / 10) ++ [UInt8.ofNat (48 + a % 10)] := by
  unfold pre
  rw [if_neg h, Lib.decDigits]
  by_cases h10 : a < 10
  · rw [dif_pos h10, if_pos (by omega), Nat.mod_eq_of_lt h10]; rfl
  · rw [dif_neg h10, if_neg (by omega)]
theorem digits_le : ∀ (k u : Nat), u < 10 ^ (k + 1) → (Lib.decDigits u).length ≤ k + 1
  | 0, u, h => by rw [Lib.decDigits, dif_pos (by omega)]; simp
  | k + 1, u, h => by
    rw [Lib.decDigits]
    by_cases h10 : u < 10
    · rw [dif_pos h10]; simp
    · rw [dif_neg h10]
      have := digits_le k (u / 10) (by rw [Nat.pow_succ] at h; omega)
      simp
      omega

/-- one digit's text -/
theorem digit_text (r : Nat) (h : r < 10) : (⟨#[48, 49, 50, 51, 52, 53, 54, 55, 56, 57]⟩ : ByteArray).extract r (r + 1) = ⟨#[UInt8.ofNat (48 + r)]⟩ := by
  have : r = 0 ∨ r = 1 ∨ r = 2 ∨ r = 3 ∨ r = 4 ∨ r = 5 ∨ r = 6 ∨ r = 7 ∨ r = 8 ∨ r = 9 := by omega
  rcases this with rfl | rfl | rfl | rfl | rfl | rfl | rfl | rfl | rfl | rfl <;> decide +kernel

theorem spec_pos (n : Nat) (w : World) (hn : (n : Int) ≤ 9223372036854775807) (h0 : n ≠ 0) :
    Calls Tryz.prog 56 #[.int .i64 n] w fun e w' => e = .returned (.string ⟨(Lib.decDigits n).toArray⟩) ∧ w = w' := by
  have hne : ((n : Int) == 0) = false := by simp; omega
  have hD : Hid ((Lib.decDigits n).length ≤ 20) := digits_le 19 n (by omega)
  go_enter Tryz.func56, Tryz.ntmps56
  go_wp2
  go_loop [3, 4, 5] (fun o m _ => ∃ (a : Nat) (l : List UInt8), a ≤ n ∧ m = .int .i64 a ∧ o = .string ⟨l.toArray⟩ ∧ Hid (pre a ++ l = Lib.decDigits n)) (fun _ m _ => (intOf m).toNat)
  case atStart => exact ⟨n, [], Nat.le_refl _, rfl, rfl, by unfold Hid; simp [pre, h0]⟩
  case round =>
    obtain ⟨a, l, ha, rfl, rfl, hl⟩ := hrel
    by_cases haz : a = 0
    · subst haz
      have hll : l = Lib.decDigits n := by simpa [Hid, pre] using hl
      subst hll
      go_wp2
      go_ret
      exact ⟨rfl, rfl⟩
    · have hq : (((a : Nat) : Int) != 0) = true := by simp; omega
      have hls : l.length ≤ 20 := by
        have h1 := congrArg List.length hl.out
        have h2 := hD.out
        simp at h1
        omega
      have hd0 : decide (((a : Nat) : Int) % 10 < 0) = false := by simp; omega
      go_wp2
      go_round
      case rel => exact ⟨a / 10, UInt8.ofNat (48 + a % 10) :: l, by omega, by go_num, by rw [digit_text _ (Nat.mod_lt _ (by decide))]; exact congrArg Value.string (ByteArray.ext (by simp)), by unfold Hid; rw [← hl.out, pre_step haz]; simp⟩
      case measure => simp [intOf]; omega

theorem spec_neg (n : Nat) (w : World) (hn : (n : Int) ≤ 9223372036854775808) (h0 : n ≠ 0) :
    Calls Tryz.prog 56 #[.int .i64 (-(n : Int))] w fun e w' => e = .returned (.string ⟨(45 :: Lib.decDigits n).toArray⟩) ∧ w = w' := by
  have hne : (-(n : Int) == 0) = false := by simp; omega
  have hD : Hid ((Lib.decDigits n).length ≤ 20) := digits_le 19 n (by omega)
  go_enter Tryz.func56, Tryz.ntmps56
  go_wp2
  go_loop [3, 4, 5] (fun o m _ => ∃ (a : Nat) (l : List UInt8), a ≤ n ∧ m = .int .i64 (-(a : Int)) ∧ o = .string ⟨l.toArray⟩ ∧ Hid (pre a ++ l = Lib.decDigits n)) (fun _ m _ => (-(intOf m)).toNat)
  case atStart => exact ⟨n, [], Nat.le_refl _, rfl, rfl, by unfold Hid; simp [pre, h0]⟩
  case round =>
    obtain ⟨a, l, ha, rfl, rfl, hl⟩ := hrel
    have hls : l.length ≤ 20 := by
      have h1 := congrArg List.length hl.out
      have h2 := hD.out
      simp at h1
      omega
    by_cases haz : a = 0
    · subst haz
      have hll : l = Lib.decDigits n := by simpa [Hid, pre] using hl
      subst hll
      go_wp2
      go_ret
      exact ⟨congrArg (fun s => Ending.returned (Value.string s)) (ByteArray.ext (by simp)), rfl⟩
    · have hq : ((-((a : Nat) : Int)) != 0) = true := by simp; omega
      go_wp2
      · go_round
        case rel => exact ⟨a / 10, UInt8.ofNat (48 + a % 10) :: l, by omega, by go_num, by rw [digit_text _ (Nat.mod_lt _ (by decide))]; exact congrArg Value.string (ByteArray.ext (by simp)), by unfold Hid; rw [← hl.out, pre_step haz]; simp⟩
        case measure => simp [intOf]; omega
      · have hz : ((a : Nat) : Int) % 10 ≤ 0 := by assumption
        have e1 : (-(((a : Nat) : Int) % 10)).toNat = a % 10 := by omega
        have e2 : (-(((a : Nat) : Int) % 10) + 1).toNat = a % 10 + 1 := by omega
        go_round
        case rel => exact ⟨a / 10, UInt8.ofNat (48 + a % 10) :: l, by omega, by go_num, by rw [e1, e2, digit_text _ (Nat.mod_lt _ (by decide))]; exact congrArg Value.string (ByteArray.ext (by simp)), by unfold Hid; rw [← hl.out, pre_step haz]; simp⟩
        case measure => simp [intOf]; omega

theorem spec_zero (w : World) : Calls Tryz.prog 56 #[.int .i64 0] w fun e w' => e = .returned (.string ⟨#[48]⟩) ∧ w = w' := by
  go_enter Tryz.func56, Tryz.ntmps56
  go_wp2
  go_ret
  exact ⟨rfl, rfl⟩

theorem spec_dec (n : Int) (w : World) (h0 : -9223372036854775808 ≤ n) (h1 : n ≤ 9223372036854775807) :
    Calls Tryz.prog 56 #[.int .i64 n] w fun e w' => e = .returned (.string ⟨(Lib.itoa n).toArray⟩) ∧ w = w' := by
  by_cases hneg : n < 0
  · obtain ⟨u, rfl⟩ : ∃ u : Nat, n = -(u : Int) := ⟨n.natAbs, by omega⟩
    have e : Lib.itoa (-(u : Int)) = 45 :: Lib.decDigits u := by
      unfold Lib.itoa
      rw [if_pos hneg, show (-(u : Int)).natAbs = u by omega]
    rw [e]
    exact spec_neg u w (by omega) (by omega)
  · obtain ⟨u, rfl⟩ : ∃ u : Nat, n = (u : Int) := ⟨n.toNat, by omega⟩
    have e : Lib.itoa (u : Int) = Lib.decDigits u := by
      unfold Lib.itoa
      rw [if_neg hneg, show ((u : Int)).toNat = u by omega]
    rw [e]
    by_cases hz : u = 0
    · subst hz
      have : Lib.decDigits 0 = [48] := by rw [Lib.decDigits, dif_pos (by decide)]; rfl
      rw [this]
      exact spec_zero w
    · exact spec_pos u w h1 hz
end Go.Proofs.YtnooibeohdfcmaaGreatDoor.dt

/- As ChainDraw, with one operation more that makes memory wherever it comes: it waits for none of those with an effect, and one of them waits for it. -/
namespace Go.Proofs.YtnooibeohdfcmaaGreatDoor.chf
open Go.Proofs.YtnooibeohdfcmaaGreatDoor.dn
open Go.Proofs.YtnooibeohdfcmaaGreatDoor.chn (on off up shut at_m next_m)
open Go.Proofs.YtnooibeohdfcmaaGreatDoor.chd (But but_lookup)
set_option linter.unusedVariables false

/-- of the operations js the first k are done, j0 is done or not, and the world is as S says -/
def Cf {σ : Type} (l : List Oper) (js : List Nat) (j0 : Nat) (S : σ → Nat → Bool → World → Prop) (s : σ) (L : Nat → Bool) (w : World) : Prop :=
  (∀ (i : Nat) (o : Oper), l[i]? = some o → L i = true → ∀ e ∈ o.after, Region.binds .any e = true → L e.on = true) ∧
  ∃ k, k ≤ js.length ∧ (∀ (m j : Nat), js[m]? = some j → L j = decide (m < k)) ∧ S s k (L j0) w
section
variable {σ : Type} {P : Program} {act : Act} {ws : σ → List (Nat × Value)} {l : List Oper} {js : List Nat} {j0 : Nat} {S : σ → Nat → Bool → World → Prop} {Q : Exit → Act → World → Prop} {i : Nat} {o : Oper}
theorem k_le {L : Nat → Bool} {k m : Nat} (hc : ∀ (i : Nat) (o : Oper), l[i]? = some o → L i = true → ∀ e ∈ o.after, Region.binds .any e = true → L e.on = true) (hk : k ≤ js.length) (hL : ∀ (m j : Nat), js[m]? = some j → L j = decide (m < k)) (h0 : L i = false)
    (hm : m = js.length ∨ ∃ j oj, js[m]? = some j ∧ l[j]? = some oj ∧ ∃ e ∈ oj.after, Region.binds .any e = true ∧ e.on = i) : k ≤ m := by
  rcases hm with rfl | ⟨j, oj, hj, hoj, e, he, hb, hon⟩
  · exact hk
  · rcases Nat.lt_or_ge m k with h | h
    · have h1 : L j = true := by rw [hL m j hj]; simpa using h
      have := hc j oj hoj h1 e he hb
      rw [hon, h0] at this
      cases this
    · exact h
theorem quiet (m : Nat) (hl : l[i]? = some o) (hi : i ∉ js) (hi0 : i ≠ j0) (hm : m = js.length ∨ ∃ j oj, js[m]? = some j ∧ l[j]? = some oj ∧ ∃ e ∈ oj.after, Region.binds .any e = true ∧ e.on = i) (hsel : ∀ cs b, o.op ≠ .select cs b) (u : σ → Value)
    (hd : ∀ s d, o.dst = some d → (dk.sets act (ws s)).tmps[d]? = some (u s)) (hrun : ∀ s k b W, k ≤ m → S s k b W → (execOp (dk.sets act (ws s)).eval o).run P W = .ok (.value (u s)) W) : gt.Step P l.toArray (fun s => dk.sets act (ws s)) (Cf l js j0 S) Q i o := by
  refine gt.step_val hsel fun s L W hdp h0 hC => ⟨s, u s, gt.Turn.refl _ _ _, hd s, ?_⟩
  obtain ⟨hc, k, hk, hL, hS⟩ := hC
  rw [hrun s k _ W (k_le hc hk hL h0 hm) hS]
  refine ⟨rfl, shut hl hdp hc, k, hk, fun m' j hj => ?_, by rw [off L (Ne.symm hi0)]; exact hS⟩
  rw [off L (fun e => hi (by rw [← e]; exact List.mem_of_getElem? hj))]
  exact hL m' j hj
/-- the operation that makes memory wherever it comes -/
theorem free (m : Nat) (hl : l[i]? = some o) (hi : i ∉ js) (hi0 : i = j0) (hm : m = js.length ∨ ∃ j oj, js[m]? = some j ∧ l[j]? = some oj ∧ ∃ e ∈ oj.after, Region.binds .any e = true ∧ e.on = i) (zs qz : List Nat) (hz : cht.waitB l i [] zs = true) (hq : cht.slotB l zs qz = true) (hsel : ∀ cs b, o.op ≠ .select cs b)
    (h : ∀ s k W, k ≤ m → S s k false W → ∃ s' v w', But qz (ws s) (ws s') ∧ (∀ d, o.dst = some d → (dk.sets act (ws s')).tmps[d]? = some v) ∧ (execOp (dk.sets act (ws s)).eval o).run P W = .ok (.value v) w' ∧ S s' k true w') : gt.Step P l.toArray (fun s => dk.sets act (ws s)) (Cf l js j0 S) Q i o := by
  subst hi0
  refine gt.step_val hsel fun s L W hdp h0 hC => ?_
  obtain ⟨hc, k, hk, hL, hS⟩ := hC
  rw [h0] at hS
  obtain ⟨s', v, w', h1, h2, h3, h4⟩ := h s k W (k_le hc hk hL h0 hm) hS
  refine ⟨s', v, cht.turn_of (cht.wait_not hc h0 zs [] (fun y hy => by cases hy) hz) hq (but_lookup _ _ h1), h2, ?_⟩
  rw [h3]
  refine ⟨rfl, shut hl hdp hc, k, hk, fun m' j hj => ?_, by rw [on]; exact h4⟩
  rw [off L (fun e => hi (by rw [← e]; exact List.mem_of_getElem? hj))]
  exact hL m' j hj
theorem call (m : Nat) (zs qz : List Nat) (hz : cht.waitB l i [] zs = true) (hq : cht.slotB l zs qz = true) (hl : l[i]? = some o) (hnd : js.Nodup) (hi0 : i ≠ j0) (hm : js[m]? = some i) (hdep : m = 0 ∨ ∃ e ∈ o.after, Region.binds .any e = true ∧ js[m - 1]? = some e.on) (hsel : ∀ cs b, o.op ≠ .select cs b) (f : FuncId) (args : σ → Array Value)
    (h : ∀ s b W, ((∃ e ∈ o.after, Region.binds .any e = true ∧ e.on = j0) → b = true) → S s m b W → (execOp (dk.sets act (ws s)).eval o).run P W = .ok (.enter f (args s)) W ∧ Calls P f (args s) W fun e w' => ∃ s' v, e = .returned v ∧ But qz (ws s) (ws s') ∧ (∀ d, o.dst = some d → (dk.sets act (ws s')).tmps[d]? = some v) ∧ S s' (m + 1) b w') : gt.Step P l.toArray (fun s => dk.sets act (ws s)) (Cf l js j0 S) Q i o := by
  intro s L w a ha hdp h0 hC K hK
  obtain ⟨hc, k, hk, hL, hS⟩ := hC
  obtain rfl := at_m hL hm h0 hdep hdp
  obtain ⟨h1, h2⟩ := h s (L j0) w (fun ⟨e, he, hb, hon⟩ => by rw [← hon]; exact hdp e he hb) hS
  have hlt := (List.getElem?_eq_some_iff.1 hm).1
  unfold Oper.wp
  rw [execOp_congr o hsel ha, h1]
  simp only [Oper.upon]
  exact h2.mono fun e w' ⟨s', v, he, ht, hv, hS'⟩ => by
    subst he
    exact hK s' _ _ (cht.turn_of (cht.wait_not hc h0 zs [] (fun y hy => by cases hy) hz) hq (but_lookup _ _ ht)) hv ⟨shut hl hdp hc, k + 1, hlt, next_m hnd hm hL, by rw [off L (Ne.symm hi0)]; exact hS'⟩
theorem eff (m : Nat) (zs qz : List Nat) (hz : cht.waitB l i [] zs = true) (hq : cht.slotB l zs qz = true) (hl : l[i]? = some o) (hnd : js.Nodup) (hi0 : i ≠ j0) (hm : js[m]? = some i) (hdep : m = 0 ∨ ∃ e ∈ o.after, Region.binds .any e = true ∧ js[m - 1]? = some e.on) (hsel : ∀ cs b, o.op ≠ .select cs b)
    (h : ∀ s b W, S s m b W → ∃ s' v w', But qz (ws s) (ws s') ∧ (∀ d, o.dst = some d → (dk.sets act (ws s')).tmps[d]? = some v) ∧ (execOp (dk.sets act (ws s)).eval o).run P W = .ok (.value v) w' ∧ S s' (m + 1) b w') : gt.Step P l.toArray (fun s => dk.sets act (ws s)) (Cf l js j0 S) Q i o := by
  refine gt.step_val hsel fun s L W hdp h0 hC => ?_
  obtain ⟨hc, k, hk, hL, hS⟩ := hC
  obtain rfl := at_m hL hm h0 hdep hdp
  obtain ⟨s', v, w', h1, h2, h3, h4⟩ := h s _ W hS
  have hlt := (List.getElem?_eq_some_iff.1 hm).1
  refine ⟨s', v, cht.turn_of (cht.wait_not hc h0 zs [] (fun y hy => by cases hy) hz) hq (but_lookup _ _ h1), h2, ?_⟩
  rw [h3]
  exact ⟨rfl, shut hl hdp hc, k + 1, hlt, next_m hnd hm hL, by rw [off L (Ne.symm hi0)]; exact h4⟩
theorem sto (m : Nat) (hl : l[i]? = some o) (hnd : js.Nodup) (hi0 : i ≠ j0) (hm : js[m]? = some i) (hdep : m = 0 ∨ ∃ e ∈ o.after, Region.binds .any e = true ∧ js[m - 1]? = some e.on) (hsel : ∀ cs b, o.op ≠ .select cs b) (hdst : o.dst = none)
    (h : ∀ s b W, S s m b W → ∃ w', (execOp (dk.sets act (ws s)).eval o).run P W = .ok .skip w' ∧ S s (m + 1) b w') : gt.Step P l.toArray (fun s => dk.sets act (ws s)) (Cf l js j0 S) Q i o := by
  refine gt.step_val hsel fun s L W hdp h0 hC => ?_
  obtain ⟨hc, k, hk, hL, hS⟩ := hC
  obtain rfl := at_m hL hm h0 hdep hdp
  obtain ⟨w', h1, h2⟩ := h s _ W hS
  have hlt := (List.getElem?_eq_some_iff.1 hm).1
  refine ⟨s, undef, gt.Turn.refl _ _ _, fun d hd => (by rw [hdst] at hd; cases hd), ?_⟩
  rw [h1]
  exact ⟨rfl, shut hl hdp hc, k + 1, hlt, next_m hnd hm hL, by rw [off L (Ne.symm hi0)]; exact h2⟩
theorem region {id : Nat} {w : World} (ks : List Nat) (s0 : σ) (hm : P.follows .mixedOrders = true) (hok : okB l.toArray = true) (hw : ∀ g, (ws g).map (·.1) = ks) (hks : (ks.all fun t => keepB l t) = true) (hjs : ∀ j ∈ js, j < l.length) (hj0 : j0 < l.length) (hS : S s0 0 false w.drew)
    (hstep : gt.Each P l.toArray (fun g => dk.sets act (ws g)) (Cf l js j0 S) Q 0 l) (hend : ∀ s w', S s js.length true w' → Q .normal (dk.sets act (ws s)) w') : (Code.region id l.toArray true).wp P Q act w := by
  refine gt.region_ghost (fun g => dk.sets act (ws g)) (Cf l js j0 S) s0 hm hok (dk.sets_defers act _).symm (fun s => (dk.sets_size act (ws s)).symm) _ rfl (fun g => dk.kept_of _ (dk.keeps (ws g) (hw g) hks)) ⟨fun i o _ h => (by cases h), 0, Nat.zero_le _, fun m j _ => by simp, hS⟩ hstep fun s L w' hL hC => ?_
  obtain ⟨_, k, hk, hLk, hS'⟩ := hC
  rw [hL _ hj0] at hS'
  have : k = js.length := by
    rcases Nat.lt_or_ge k js.length with h | h
    · have h1 := hLk k js[k] (List.getElem?_eq_getElem h)
      rw [hL _ (hjs _ (List.getElem_mem h))] at h1
      simp at h1
    · omega
  subst this
  exact hend s w' hS'
end
end Go.Proofs.YtnooibeohdfcmaaGreatDoor.chf

/- append(s, make(S, n)...) where it must grow: a new row with s's cells, then zero values. -/
namespace Go.Proofs.YtnooibeohdfcmaaGreatDoor.az
open Go.RowKit
set_option linter.unusedVariables false

theorem wrap_nat {n : Nat} (h : (n : Int) ≤ 9223372036854775807) : IntKind.i64.wrap (n : Int) = (n : Int) := by
  have h0 : (0 : Int) ≤ (n : Int) := by omega
  generalize (n : Int) = m at *
  simp [IntKind.wrap, IntKind.signed, IntKind.bits]
  omega
theorem run_append_zeros {P : Program} (w : World) (t u ty e : TypeId) (i : TypeInfo) (z : Value) (ht : P.underlying t = some (.slice e)) (hu : P.underlying u = some (.int .i64)) (hi : P.info? e = some i) (hz : i.zero = some z)
    (b : Addr) (sLen sCap : Nat) (olds : List Value) (hlo : olds.length = sLen * i.size) (holds : ∀ j v, olds[j]? = some v → w.cell? (b.add j) = some v)
    (n : Nat) (hn0 : n * i.size ≠ 0) (hg : sCap < sLen + n) (h63 : ((sLen + n : Nat) : Int) ≤ 9223372036854775807) (hby : ((n : Int) * (i.bytes : Int)) ≤ 281474976710656) (hfit : Builtin.nextslicecap (sLen + n) sCap * i.bytes ≤ 281474976710656) :
    (Builtin.append_ #[t, u] ty #[.slice (some b) sLen sCap, .int .i64 n]).run P w =
      .ok (.slice (some ⟨w.heap.size, 0, none⟩) (sLen + n) (grownCap w (sLen + n) sCap e))
        (w.drew.alloc (.cells (olds.toArray ++ Builtin.zeroCells z.cells n ++ Builtin.zeroCells z.cells (grownCap w (sLen + n) sCap e - (sLen + n))) e)) := by
  have hn : ¬ (sLen + n ≤ sCap) := by omega
  have h63' : ¬ (9223372036854775807 < ((sLen : Int) + (n : Int))) := by omega
  have h48' : ¬ (281474976710656 < Builtin.nextslicecap (sLen + n) sCap * i.bytes) := by omega
  have hby' : ¬ (281474976710656 < ((n : Int) * (i.bytes : Int))) := by omega
  have hw := wrap_nat (n := n) (by omega)
  have hn1 : ¬ ((n : Int) < 0) := by omega
  have hfo := run_firstCells_some (P := P) w.drew i.size sLen b sLen sCap olds hlo (by simpa using holds)
  simp [Builtin.append_, run_underlying ht, run_underlying hu, sizeOf, typeInfo, zeroValue, hi, hz, asInt, asIntOf, hw, hn, hn1, hby', h63', h48', hn0, Question.forced, hfo, newRow, grownCap]
end Go.Proofs.YtnooibeohdfcmaaGreatDoor.az
