/- The specification's draws: a cursor in a block of the call's own; each draw answers some value of its bounds, turns nothing below the cursor's block, and leaves the cursor right. -/
import Derived.Test.YtnooibeohdfcmaaGreatDoorRows
import Derived.WalkKit
import Derived.WalkLawsBesides
import Derived.WalkSpells
import Derived.ProofKit
import Derived.OpenShut
import Derived.ShutString
import Derived.Below
import Derived.Laws.BitsAllLaws
import Derived.Laws.BytesArg
import Derived.OwnWalk
namespace Go.Proofs.YtnooibeohdfcmaaGreatDoor.dw
open Go.ChangeShapes Go.WideShapes Go.ChangeAt Go.RowKit

/-- the bytes of the code, in memory below block B -/
def Code (w : World) (B : Nat) (a : Option Addr) (len : Nat) : Prop :=
  len = 0 ∨ ∃ b off, a = some ⟨b, off, none⟩ ∧ b < B ∧ ∀ i, i < len → ∃ v : Nat, v < 256 ∧ w.cell? ⟨b, off + i, none⟩ = some (.int .u8 v)
theorem Code.below {w w' : World} {B B' : Nat} {a : Option Addr} {len : Nat} (h : Code w B a len) (hb : Below B' w w') (hB : B ≤ B') : Code w' B a len := by
  rcases h with h | ⟨b, off, ha, hlt, hc⟩
  · exact .inl h
  · refine .inr ⟨b, off, ha, hlt, fun i hi => ?_⟩
    obtain ⟨v, hv, hcell⟩ := hc i hi
    exact ⟨v, hv, (hb.cell (p := ⟨b, off + i, none⟩) (by show b < B'; omega)).trans hcell⟩
theorem Code.mono {w : World} {B B' : Nat} {a : Option Addr} {len : Nat} (h : Code w B a len) (hB : B ≤ B') : Code w B' a len := by
  rcases h with h | ⟨b, off, ha, hlt, hc⟩
  · exact .inl h
  · exact .inr ⟨b, off, ha, by omega, hc⟩

/-- nothing that was there is turned but block p -/
def On (p : Nat) (w w' : World) : Prop := w.grownBy w' (some p)
theorem On.refl (p : Nat) (w : World) : On p w w := World.grownBy.refl w _
theorem On.trans {p : Nat} {a b c : World} (h : On p a b) (k : On p b c) : On p a c :=
  ⟨k.os.trans h.os, k.tape.trans h.tape, k.output.trans h.output, Nat.le_trans h.size k.size, fun i hi hp => (k.block i (Nat.lt_of_lt_of_le hi h.size) hp).trans (h.block i hi hp)⟩
theorem On.below {p B : Nat} {w w' : World} (h : On p w w') (hB : B ≤ p) (hs : B ≤ w.heap.size) : Below B w w' :=
  ⟨h.os, h.tape, h.output, h.size, fun k hk => h.block k (by omega) (by simp; omega)⟩
theorem On.drew {p : Nat} {a w : World} (h : On p a w) : On p a w.drew := ⟨h.os, h.tape, h.output, h.size, h.block⟩
theorem On.setCell {p : Nat} {a w : World} (h : On p a w) (i : Nat) (v : Value) : On p a (w.setCell ⟨p, i, none⟩ v) :=
  ⟨h.os, h.tape, h.output, by simpa [World.setCell] using h.size, fun k hk hp => (Below.heap_setCell w ⟨p, i, none⟩ v k (by simpa using hp)).trans (h.block k hk hp)⟩
theorem On.alloc {p : Nat} {a w : World} (h : On p a w) (o : Obj) : On p a (w.alloc o) :=
  ⟨h.os, h.tape, h.output, Nat.le_trans h.size (by show w.heap.size ≤ (w.heap.push o).size; simp), fun k hk hp => (Below.heap_alloc w o k (Nat.lt_of_lt_of_le hk h.size)).trans (h.block k hk hp)⟩
theorem On.grown {p : Nat} {a w w' : World} {row : Option Nat} (h : On p a w) (hg : w.grownBy w' row) (hr : ∀ k, row = some k → a.heap.size ≤ k) : On p a w' :=
  ⟨hg.os.trans h.os, hg.tape.trans h.tape, hg.output.trans h.output, Nat.le_trans h.size hg.size, fun k hk hp => (hg.block k (Nat.lt_of_lt_of_le hk h.size) (fun e => by have := hr k e.symm; omega)).trans (h.block k hk hp)⟩
theorem On.of_below {p : Nat} {w w' : World} (h : Below w.heap.size w w') : On p w w' := ⟨h.os, h.tape, h.output, h.size, fun k hk _ => h.block k hk⟩
theorem Code.on {w w' : World} {B p : Nat} {a : Option Addr} {len : Nat} (h : Code w B a len) (hb : On p w w') (hB : B ≤ p) (hs : B ≤ w.heap.size) : Code w' B a len := h.below (hb.below hB hs) (Nat.le_refl _)

/-- a cursor over that code in block p -/
def Cur (w : World) (p : Nat) (a : Option Addr) (len cap : Nat) : Prop :=
  len ≤ 1048576 ∧ Code w p a len ∧ ∃ (i : Nat) (h : Int), i ≤ len ∧ w.heap[p]? = some (.cells #[.slice a len cap, .int .i64 i, .int .i64 h] 85 (0, 0))

theorem cur_h {w : World} {p : Nat} {a : Option Addr} {len cap i : Nat} {h : Int} (hlen : len ≤ 1048576) (hcode : Code w p a len) (hi : i ≤ len) (hblk : w.heap[p]? = some (.cells #[.slice a len cap, .int .i64 i, .int .i64 h] 85 (0, 0))) (H : Int) :
    Cur (w.setCell ⟨p, 2, none⟩ (.int .i64 H)) p a len cap ∧ On p w (w.setCell ⟨p, 2, none⟩ (.int .i64 H)) := by
  have hb : On p w (w.setCell ⟨p, 2, none⟩ (.int .i64 H)) := (On.refl _ _).setCell 2 _
  have hp : p < w.heap.size := (Array.getElem?_eq_some_iff.1 hblk).1
  exact ⟨⟨hlen, hcode.on hb (Nat.le_refl _) (Nat.le_of_lt hp), i, H, hi, heap_setCell_same w p 2 _ _ (.int .i64 H) hblk⟩, hb⟩
theorem cur_hi {w : World} {p : Nat} {a : Option Addr} {len cap i : Nat} {h : Int} (hlen : len ≤ 1048576) (hcode : Code w p a len) (hi : i < len) (hblk : w.heap[p]? = some (.cells #[.slice a len cap, .int .i64 i, .int .i64 h] 85 (0, 0))) (H : Int) :
    Cur ((w.setCell ⟨p, 2, none⟩ (.int .i64 H)).setCell ⟨p, 1, none⟩ (.int .i64 ((i : Int) + 1))) p a len cap ∧ On p w ((w.setCell ⟨p, 2, none⟩ (.int .i64 H)).setCell ⟨p, 1, none⟩ (.int .i64 ((i : Int) + 1))) := by
  have hb : On p w ((w.setCell ⟨p, 2, none⟩ (.int .i64 H)).setCell ⟨p, 1, none⟩ (.int .i64 ((i : Int) + 1))) := ((On.refl _ _).setCell 2 _).setCell 1 _
  have hp : p < w.heap.size := (Array.getElem?_eq_some_iff.1 hblk).1
  have h2 := heap_setCell_same w p 2 _ _ (.int .i64 H) hblk
  have h1 := heap_setCell_same _ p 1 _ _ (.int .i64 ((i : Int) + 1)) h2
  exact ⟨⟨hlen, hcode.on hb (Nat.le_refl _) (Nat.le_of_lt hp), i + 1, H, hi, h1⟩, hb⟩

theorem Cur.lt {w : World} {p : Nat} {a : Option Addr} {len cap : Nat} (h : Cur w p a len cap) : p < w.heap.size := by
  obtain ⟨_, _, i, h, _, hb⟩ := h
  exact (Array.getElem?_eq_some_iff.1 hb).1
/-- what turns nothing that was there keeps a cursor -/
theorem Cur.below {w w' : World} {p : Nat} {a : Option Addr} {len cap : Nat} (h : Cur w p a len cap) (hb : Below w.heap.size w w') : Cur w' p a len cap := by
  have hp := h.lt
  obtain ⟨h1, h2, i, x, h3, h4⟩ := h
  exact ⟨h1, h2.below hb (Nat.le_of_lt hp), i, x, h3, by rw [hb.block p hp]; exact h4⟩
theorem Cur.alloc {w : World} {p : Nat} {a : Option Addr} {len cap : Nat} (h : Cur w p a len cap) (o : Obj) : Cur (w.alloc o) p a len cap := h.below ((Below.refl _ _).alloc (Nat.le_refl _) o)
theorem Cur.grown {w w' : World} {p : Nat} {a : Option Addr} {len cap : Nat} {row : Option Nat} (h : Cur w p a len cap) (hg : w.grownBy w' row) (hr : ∀ k, row = some k → p < k) : Cur w' p a len cap := by
  have hp := h.lt
  obtain ⟨h1, h2, i, x, h3, h4⟩ := h
  refine ⟨h1, ?_, i, x, h3, by rw [hg.block p hp (fun e => by have := hr p e.symm; omega)]; exact h4⟩
  rcases h2 with h | ⟨b, off, ha, hlt, hc⟩
  · exact .inl h
  · refine .inr ⟨b, off, ha, hlt, fun i hi => ?_⟩
    obtain ⟨v, hv, hcell⟩ := hc i hi
    exact ⟨v, hv, hg.cell hcell (fun e => by have := hr b e.symm; omega)⟩

theorem and255 (x : Int) : ∃ n : Nat, n < 256 ∧ bits .and .i64 x 255 = (n : Int) := by
  refine ⟨(BitVec.ofInt 64 x).toNat % 256, Nat.mod_lt _ (by decide), ?_⟩
  show IntKind.i64.wrap ((BitVec.ofInt 64 x &&& BitVec.ofInt 64 255).toNat : Int) = _
  rw [BitVec.toNat_and, show (BitVec.ofInt 64 255).toNat = 2 ^ 8 - 1 from rfl, Nat.and_two_pow_sub_one_eq_mod, IntKind.wrap_i64]
  omega

theorem draw_byte (p : Nat) (a : Option Addr) (len cap : Nat) (w : World) (hc : Cur w p a len cap) :
    Calls Tryz.prog 68 #[.pointer (some ⟨p, 0, none⟩)] w fun e w' => (∃ x : Nat, x < 256 ∧ e = .returned (.int .i64 x)) ∧ Cur w' p a len cap ∧ On p w w' := by
  obtain ⟨hlen, hcode, i, h, hi, hblk⟩ := hc
  have c0 : w.cell? ⟨p, 0, none⟩ = some (.slice a len cap) := by simp [World.cell?, hblk]
  have c1 : w.cell? ⟨p, 1, none⟩ = some (.int .i64 i) := by simp [World.cell?, hblk]
  have c2 : w.cell? ⟨p, 2, none⟩ = some (.int .i64 h) := by simp [World.cell?, hblk]
  have f1 : w.frozen? ⟨p, 1, none⟩ = false := by simp [World.frozen?, hblk]
  have f2 : w.frozen? ⟨p, 2, none⟩ = false := by simp [World.frozen?, hblk]
  obtain ⟨H, hH⟩ : ∃ H, wrap64 (wrap64 (h * 6364136223846793005) + 1442695040888963407) = H := ⟨_, rfl⟩
  obtain ⟨x, hx, hX⟩ := and255 (bits .xor .i64 (H / 8589934592) (H / 35184372088832))
  by_cases hlt : i < len
  · have HC := cur_hi hlen hcode hlt hblk H
    rcases hcode with h0 | ⟨b, off, rfl, hbp, hbytes⟩
    · omega
    obtain ⟨v, hv, hcv⟩ := hbytes i hlt
    obtain ⟨y, hy, hY⟩ := and255 ((x : Int) + (v : Int))
    have hne : b ≠ p := by omega
    clear hbytes hblk
    go_enter Tryz.func68, Tryz.ntmps68
    go_wp2
    go_region
    all_goals go_wp2
    go_region
    all_goals go_wp2
    go_region
    all_goals go_wp2
    go_ret
    exact ⟨⟨y, hy, rfl⟩, HC.1, HC.2.drew.drew.drew⟩
  · have HC := cur_h hlen hcode hi hblk H
    clear hcode hblk
    go_enter Tryz.func68, Tryz.ntmps68
    go_wp2
    go_region
    all_goals go_wp2
    go_region
    all_goals go_wp2
    go_ret
    exact ⟨⟨x, hx, rfl⟩, HC.1, HC.2.drew.drew⟩

theorem ret_mod (x n : Nat) : Ending.returned (.int .i64 ((x : Int) % (n : Int))) = Ending.returned (.int .i64 ((x % n : Nat) : Int)) := by rw [Int.natCast_emod]

theorem draw_below (p : Nat) (a : Option Addr) (len cap n : Nat) (w : World) (hn : 1 ≤ n ∧ n ≤ 4294967296) (hc : Cur w p a len cap) :
    Calls Tryz.prog 45 #[.pointer (some ⟨p, 0, none⟩), .int .i64 n] w fun e w' => (∃ x : Nat, x < n ∧ e = .returned (.int .i64 x)) ∧ Cur w' p a len cap ∧ On p w w' := by
  have hby := fun (W : World) (h : Cur W p a len cap) => draw_byte p a len cap W h
  by_cases h256 : n ≤ 256
  · have h1 := hby w hc
    clear hby hc
    go_enter Tryz.func45, Tryz.ntmps45
    go_wp2_with (go_at_call 68; refine h1.mono ?_; rintro e w1 ⟨⟨x, hx, rfl⟩, hc1, hb1⟩)
    go_ret
    exact ⟨⟨x % n, Nat.mod_lt _ (by omega), ret_mod x n⟩, hc1, hb1⟩
  · have h1 := hby w hc
    clear hc
    go_enter Tryz.func45, Tryz.ntmps45
    have k1 : True := trivial
    go_wp2_with (go_at_call 68; have _t := k1; refine h1.mono ?_; rintro e w1 ⟨⟨x, hx, rfl⟩, hc1, hb1⟩; clear k1)
    have h2 := hby w1 hc1
    clear h1
    have k2 : True := trivial
    go_wp2_with (go_at_call 68; have _t := k2; refine h2.mono ?_; rintro e w2 ⟨⟨y, hy, rfl⟩, hc2, hb2⟩; clear k2)
    have h3 := hby w2 hc2
    clear h2
    have k3 : True := trivial
    go_wp2_with (go_at_call 68; have _t := k3; refine h3.mono ?_; rintro e w3 ⟨⟨z, hz, rfl⟩, hc3, hb3⟩; clear k3)
    have h4 := hby w3 hc3
    clear h3
    have k4 : True := trivial
    go_wp2_with (go_at_call 68; have _t := k4; refine h4.mono ?_; rintro e w4 ⟨⟨u, hu, rfl⟩, hc4, hb4⟩; clear k4)
    go_ret
    exact ⟨⟨(x * 16777216 + y * 65536 + z * 256 + u) % n, Nat.mod_lt _ (by omega), by rw [← ret_mod]; simp⟩, hc4, ((hb1.trans hb2).trans hb3).trans hb4⟩

theorem draw_pick (p : Nat) (a : Option Addr) (len cap g m : Nat) (zs : List ByteArray) (w : World) (hm : 1 ≤ m ∧ m ≤ 256) (hg : g ≠ p) (hz : ∀ i, i < m → ∃ z ∈ zs, w.cell? ⟨g, i, none⟩ = some (.string z)) (hc : Cur w p a len cap) :
    Calls Tryz.prog 36 #[.pointer (some ⟨p, 0, none⟩), .slice (some ⟨g, 0, none⟩) m m] w fun e w' => (∃ z ∈ zs, e = .returned (.string z)) ∧ Cur w' p a len cap ∧ On p w w' := by
  have h1 := draw_below p a len cap m w (by omega) hc
  clear hc
  have HZ : Hid (∀ i, i < m → ∃ z ∈ zs, w.cell? ⟨g, i, none⟩ = some (.string z)) := hz
  clear hz
  go_enter Tryz.func36, Tryz.ntmps36
  go_wp2_with (go_at_call 45; refine h1.mono ?_; rintro e w1 ⟨⟨x, hx, rfl⟩, hc1, hb1⟩; obtain ⟨z, hzs, hcell⟩ := HZ.out x hx; have hcell1 := hb1.cell hcell (by simpa using hg))
  go_ret
  exact ⟨⟨z, hzs, rfl⟩, hc1, hb1⟩

set_option maxRecDepth 100000 in
theorem draw_new (a : Option Addr) (len cap : Nat) (w : World) (hlen : len ≤ 1048576) (hc : Code w w.heap.size a len) :
    Calls Tryz.prog 20 #[.slice a len cap] w fun e w' => e = .returned (.pointer (some ⟨w.heap.size, 0, none⟩)) ∧ Cur w' w.heap.size a len cap ∧ Below w.heap.size w w' := by
  have HC : Hid (Code w w.heap.size a len) := hc
  clear hc
  go_enter Tryz.func20, Tryz.ntmps20
  go_wp2
  go_loop [3, 4] (fun x y => ∃ (h : Int) (k : Nat), k ≤ len ∧ k ≤ 4000 ∧ x = .int .i64 h ∧ y = .int .i64 k) (fun _ y => len - (intOf y).toNat)
  case atStart => exact ⟨_, 0, Nat.zero_le _, Nat.zero_le _, rfl, rfl⟩
  case round =>
    obtain ⟨h, k, hk, hk4, rfl, rfl⟩ := hrel
    by_cases hkl : k < len
    · by_cases hk4' : k < 4000
      · rcases HC.out with h0 | ⟨b, off, rfl, hb, hcells⟩
        · omega
        obtain ⟨v, hv, hcell⟩ := hcells k hkl
        clear hcells
        go_wp2
        go_round
        case rel => exact ⟨_, k + 1, by omega, by omega, rfl, by go_num⟩
        case measure => simp [intOf]; omega
      · go_wp2
        go_ret
        exact ⟨rfl, ⟨hlen, HC.out.below ((Below.refl _ _).alloc (Nat.le_refl _) _) (Nat.le_refl _), 0, h, Nat.zero_le _, heap_alloc_new w _⟩, (Below.refl _ _).alloc (Nat.le_refl _) _⟩
    · go_wp2
      go_ret
      exact ⟨rfl, ⟨hlen, HC.out.below ((Below.refl _ _).alloc (Nat.le_refl _) _) (Nat.le_refl _), 0, h, Nat.zero_le _, heap_alloc_new w _⟩, (Below.refl _ _).alloc (Nat.le_refl _) _⟩

theorem at_row (w : World) (cs : Array Value) (t : TypeId) (i : Nat) (v : Value) (h : cs[i]? = some v) : (w.alloc (.cells cs t)).cell? ⟨w.heap.size, i, none⟩ = some v := by
  have hb : (w.alloc (.cells cs t)).heap[w.heap.size]? = some (.cells cs t) := heap_alloc_new w _
  simp only [World.cell?, hb]
  exact h
theorem at_texts (w : World) (zs : List ByteArray) (t : TypeId) : ∀ i, i < zs.length → ∃ z ∈ zs, (w.alloc (.cells (zs.map Value.string).toArray t)).cell? ⟨w.heap.size, i, none⟩ = some (.string z) := fun i hi =>
  ⟨zs[i], List.getElem_mem hi, at_row w _ t i _ (by simp [hi])⟩
end Go.Proofs.YtnooibeohdfcmaaGreatDoor.dw
