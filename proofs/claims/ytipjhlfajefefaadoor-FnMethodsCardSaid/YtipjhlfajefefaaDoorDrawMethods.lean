/- The specification's draws of a method, of its bytes and of what is said: some within bounds; nothing that was there is turned. -/
import Derived.Test.YtipjhlfajefefaaDoorDrawMethBase
import Derived.Test.YtipjhlfajefefaaDoorDrawSpoil
import Derived.Test.YtipjhlfajefefaaDoorSayWalks
namespace Go.Proofs.YtipjhlfajefefaaDoor.dms
set_option linter.unusedVariables false
open Go.ChangeShapes Go.WideShapes Go.ChangeAt Go.RowKit Go.Proofs.YtipjhlfajefefaaDoor.dw Go.Proofs.YtipjhlfajefefaaDoor.bx Go.Proofs.YtipjhlfajefefaaDoor.me Go.Proofs.YtipjhlfajefefaaDoor.mp Go.Proofs.YtipjhlfajefefaaDoor.ls Go.Proofs.YtipjhlfajefefaaDoor.mi

theorem sl_of_owns {α : Type} {f : α → Value} {w : World} {B : Nat} {e : TypeId} {a : Option Addr} {c : Nat} {l : List α} (h : w.ownsRow B e 1 (.slice a l.length c) l.length (l.map f)) : Sl f w w.heap.size a l ∧ l.length ≤ c := by
  have hc := h
  obtain ⟨_, ⟨hv, h0⟩ | ⟨g, cap, cur, hv, hb, hg, h1, _⟩⟩ := h
  · have : l = [] := List.length_eq_zero_iff.1 h0
    exact ⟨.inl this, by omega⟩
  · simp at hv
    obtain ⟨rfl, rfl⟩ := hv
    refine ⟨.inr ⟨g, 0, rfl, (Array.getElem?_eq_some_iff.1 hg).1, fun i x hx => ?_⟩, h1⟩
    have := World.ownsRow.cells hc (g := g) rfl i (f x) (by rw [List.getElem?_map, hx]; rfl)
    have e : (⟨g, 0, none⟩ : Addr).add i = ⟨g, 0 + i, none⟩ := by unfold Addr.add; split <;> simp_all
    rw [← e]
    exact this

/-- a method that lies in W, in small lists -/
def Lies (W : World) (c i : Int) (ts : List ByteArray) (ns : List Int) (ta na : Option Addr) (tc nc : Nat) : Prop := M W c i ts ns ta na tc nc ∧ ts.length ≤ 20 ∧ ns.length ≤ 20 ∧ ∀ t ∈ ts, t.size ≤ 256
theorem lies_of {p : Nat} {a : Option Addr} {len cap : Nat} {w w' : World} {e : Ending} (h : dm.Out p a len cap w e w') :
    (∃ c i ts ns ta na tc nc, e = .returned (.agg #[.int .i64 c, .int .i64 i, .slice ta ts.length tc, .slice na ns.length nc]) ∧ Lies w' c i ts ns ta na tc nc ∧ (∀ x, ta = some x → w.heap.size ≤ x.block) ∧ ∀ x, na = some x → w.heap.size ≤ x.block) ∧ Cur w' p a len cap ∧ On p w w' := by
  obtain ⟨⟨c, i, tv, nv, ts, ns, he, wc, wi, tl, nl, tx, nx, ot, on⟩, hc, ho⟩ := h
  obtain ⟨ta, tc, rfl⟩ := gm.own_slice ot
  obtain ⟨na, nc, rfl⟩ := gm.own_slice on
  have h1 := sl_of_owns ot
  have h2 := sl_of_owns on
  exact ⟨⟨c, i, ts, ns, ta, na, tc, nc, he, ⟨⟨wc, wi, by omega, fun x hx => by have := tx x hx; omega, by omega, nx, h1.1, h2.1, h1.2, h2.2⟩, tl, nl, tx⟩, fun x hx => (own_lt ot (by rw [hx]; rfl)).1, fun x hx => (own_lt on (by rw [hx]; rfl)).1⟩, hc, ho⟩
theorem Lies.on {w W : World} {c i : Int} {ts : List ByteArray} {ns : List Int} {ta na : Option Addr} {tc nc : Nat} (h : Lies w c i ts ns ta na tc nc) (hb : Below w.heap.size w W) : Lies W c i ts ns ta na tc nc := ⟨h.1.on hb, h.2⟩

theorem res4 {w w1 w2 : World} {o : Obj} (h1 : Below (w.heap.size + 1) (w.alloc o) w1) (h2 : On (w.heap.size + 1) w1 w2) : Below (w.alloc o).heap.size (w.alloc o) w2 := by
  have hs := h1.size
  rw [World.size_alloc] at hs ⊢
  exact h1.trans (h2.below (Nat.le_refl _) hs)
theorem box4 {x y z u : Value} {t : TypeId} {w W : World} (h : Below (w.alloc (.cells #[x, y, z, u] t)).heap.size (w.alloc (.cells #[x, y, z, u] t)) W) :
    (W.cell? ⟨w.heap.size, 0, none⟩ = some x ∧ W.cell? ⟨w.heap.size, 1, none⟩ = some y ∧ W.cell? ⟨w.heap.size, 2, none⟩ = some z ∧ W.cell? ⟨w.heap.size, 3, none⟩ = some u) ∧ W.frozen? ⟨w.heap.size, 0, none⟩ = false ∧ W.frozen? ⟨w.heap.size, 1, none⟩ = false ∧ W.frozen? ⟨w.heap.size, 2, none⟩ = false ∧ W.frozen? ⟨w.heap.size, 3, none⟩ = false := by
  have h1 := (h.block w.heap.size (by simp)).trans (heap_alloc_new w _)
  exact ⟨⟨cell_of (o := 0) h1 rfl, cell_of (o := 1) h1 rfl, cell_of (o := 2) h1 rfl, cell_of (o := 3) h1 rfl⟩, free_of (o := 0) h1, free_of (o := 1) h1, free_of (o := 2) h1, free_of (o := 3) h1⟩
/-- the lists do not lie in block r -/
theorem Lies.set {w : World} {c i : Int} {ts : List ByteArray} {ns : List Int} {ta na : Option Addr} {tc nc : Nat} (h : Lies w c i ts ns ta na tc nc) {r o : Nat} (hT : ∀ x, ta = some x → x.block ≠ r) (hN : ∀ x, na = some x → x.block ≠ r) (v : Value) : Lies (w.setCell ⟨r, o, none⟩ v) c i ts ns ta na tc nc := by
  have hs : (w.setCell ⟨r, o, none⟩ v).heap.size = w.heap.size := by simp
  refine ⟨{ h.1 with st := ?_, sn := ?_ }, h.2⟩
  · rw [hs]
    rcases h.1.st with e | ⟨b, off, ha, hlt, hc⟩
    · exact .inl e
    · refine .inr ⟨b, off, ha, hlt, fun j x hx => ?_⟩
      rw [← hc j x hx]
      exact World.cell?_of_block (Below.heap_setCell w ⟨r, o, none⟩ v b (hT _ ha))
  · rw [hs]
    rcases h.1.sn with e | ⟨b, off, ha, hlt, hc⟩
    · exact .inl e
    · refine .inr ⟨b, off, ha, hlt, fun j x hx => ?_⟩
      rw [← hc j x hx]
      exact World.cell?_of_block (Below.heap_setCell w ⟨r, o, none⟩ v b (hN _ ha))

/-- the draw of a method, as it is proved beside -/
def DM : Prop := ∀ (p : Nat) (a : Option Addr) (len cap : Nat) (w : World), Cur w p a len cap → Calls Tryd.prog 49 #[.pointer (some ⟨p, 0, none⟩)] w (dm.Out p a len cap w)

set_option maxRecDepth 100000 in
theorem draw_PutMethod (hdm : DM) (a : Option Addr) (len cap : Nat) (w : World) (hlen : len ≤ 1048576) (hc : dw.Code w w.heap.size a len) :
    Calls Tryd.prog 13 #[.slice a len cap] w fun e w' => (∃ c i ts ns ta na tc nc, e = .returned (.agg #[.int .i64 c, .int .i64 i, .slice ta ts.length tc, .slice na ns.length nc]) ∧ Lies w' c i ts ns ta na tc nc) ∧ Below w.heap.size w w' := by
  have hb0 : Below w.heap.size w (w.alloc (.cells #[.int .i64 0, .int .i64 0, .slice none 0 0, .slice none 0 0] 27)) := (Below.refl _ _).alloc (Nat.le_refl _) _
  have hcode := (hc.below hb0 (Nat.le_refl _)).mono hb0.size
  have h1 := draw_new a len cap _ hlen hcode
  rw [World.size_alloc] at h1
  clear hc hcode
  go_enter Tryd.func13, Tryd.ntmps13
  go_wp2_with (first | (go_at_call 50; refine h1.mono ?_; rintro e w1 ⟨rfl, hc1, hb1⟩) | (go_at_call 49; refine (hdm (w.heap.size + 1) a len cap w1 hc1).mono ?_; intro e w2 hout; obtain ⟨⟨c, i, ts, ns, ta, na, tc, nc, rfl, hl, hta, hna⟩, hc2, hb2⟩ := lies_of hout; obtain ⟨⟨q0, q1, q2, q3⟩, f0, f1, f2, f3⟩ := box4 (w := w) (x := .int .i64 0) (y := .int .i64 0) (z := .slice none 0 0) (u := .slice none 0 0) (t := 27) (W := w2) (res4 hb1 hb2); have HL : Hid (Lies w2 c i ts ns ta na tc nc) := hl; clear hl hout))
  have hw1 : w.heap.size + 1 ≤ w1.heap.size := by have := hc1.lt; omega
  refine bodyPost_ret (v := .agg #[.int .i64 c, .int .i64 i, .slice ta ts.length tc, .slice na ns.length nc]) (by simp [results, Tryd.results13, go_sem, q0, q1, q2, q3]) rfl ⟨⟨c, i, ts, ns, ta, na, tc, nc, rfl, ?_⟩, ?_⟩
  · have hT : ∀ x, ta = some x → x.block ≠ w.heap.size := fun x hx => by have := hta x hx; omega
    have hN : ∀ x, na = some x → x.block ≠ w.heap.size := fun x hx => by have := hna x hx; omega
    exact (((HL.out.set hT hN _).set hT hN _).set hT hN _).set hT hN _
  · have hb2' : Below w.heap.size w w2 := hb0.trans ((res4 hb1 hb2).mono (by simp))
    exact (((hb2'.setCell (p := ⟨w.heap.size, 0, none⟩) (Nat.le_refl _) _).setCell (p := ⟨w.heap.size, 1, none⟩) (Nat.le_refl _) _).setCell (p := ⟨w.heap.size, 2, none⟩) (Nat.le_refl _) _).setCell (p := ⟨w.heap.size, 3, none⟩) (Nat.le_refl _) _

theorem out_small (x : ByteArray) : (ps.out x).size ≤ 264 := by
  by_cases h : x.size ≤ 255
  · rw [wt.out_size h]; omega
  · unfold ps.out
    rw [if_neg h]
    show 0 ≤ 264
    omega
theorem bytes_size : ∀ (f : List UInt8) (ts : List ByteArray) (ns : List Int), (wd.bytesL f ts ns).size ≤ 264 * f.length
  | [], _, _ => by simp [wd.bytesL]
  | c :: f, ts, ns => by
    unfold wd.bytesL
    split
    · split
      · simp
      · rename_i t r
        have h1 := out_small t
        have h2 := bytes_size f r ns
        rw [ByteArray.size_append, List.length_cons]
        omega
    · split
      · simp
      · rename_i n r
        have h1 := pi.text_size n ((c.toNat : Int) - 48)
        have h2 := bytes_size f ts r
        rw [ByteArray.size_append, List.length_cons]
        omega
theorem outB_size (c i : Int) (ts : List ByteArray) (ns : List Int) : (wm.outB c i ts ns).size ≤ 2000 := by
  unfold wm.outB
  split
  · have h1 := pi.text_size c 2
    have h2 := pi.text_size i 2
    have h3 := bytes_size (F c i) ts ns
    have h5 := F_length c i
    rw [ByteArray.size_append, ByteArray.size_append]
    omega
  · simp

set_option maxRecDepth 100000 in
theorem draw_GetMethod (hdm : DM) (a : Option Addr) (len cap : Nat) (w : World) (hlen : len ≤ 1048576) (hc : dw.Code w w.heap.size a len) :
    Calls Tryd.prog 15 #[.slice a len cap] w fun e w' => (∃ t : ByteArray, t.size ≤ 100000 ∧ e = .returned (.string t)) ∧ Below w.heap.size w w' := by
  have h1 := draw_new a len cap w hlen hc
  clear hc
  go_enter Tryd.func15, Tryd.ntmps15
  go_wp2_with (first | (go_at_call 50; refine h1.mono ?_; rintro e w1 ⟨rfl, hc1, hb1⟩) | (go_at_call 49; refine (hdm w.heap.size a len cap w1 hc1).mono ?_; intro e w2 hout; obtain ⟨⟨c, i, ts, ns, ta, na, tc, nc, rfl, hl, -, -⟩, hc2, hb2⟩ := lies_of hout; have HL : Hid (Lies w2 c i ts ns ta na tc nc) := hl; clear hl hout) | (go_at_call 21; refine (mlp.spec_put' HL.out.1).mono ?_; rintro e w3 ⟨rfl, hb3⟩; have hc3 := hc2.below hb3) | (go_at_call 52; refine (df.draw_spoil w.heap.size a len cap _ w3 (by have := outB_size c i ts ns; omega) hc3).mono ?_; rintro e w4 ⟨⟨t, ht, rfl⟩, hc4, hb4⟩))
  go_ret
  exact ⟨⟨t, by have := outB_size c i ts ns; omega, rfl⟩, hb1.trans (((hb2.trans (On.of_below (p := w.heap.size) hb3)).trans hb4).below (Nat.le_refl _) hb1.size)⟩

def chans : List Int := [0, 1, 65535, 65536, -1]
theorem chans_in : ∀ z ∈ chans, -1 ≤ z ∧ z ≤ 65536 := by decide
theorem Lies.more {w W : World} {p : Nat} {c i : Int} {ts : List ByteArray} {ns : List Int} {ta na : Option Addr} {tc nc : Nat} (h : Lies w c i ts ns ta na tc nc) (hb : On p w W) (hT : ∀ x, ta = some x → x.block ≠ p) (hN : ∀ x, na = some x → x.block ≠ p) : Lies W c i ts ns ta na tc nc := by
  have hs := hb.size
  refine ⟨{ h.1 with st := ?_, sn := ?_ }, h.2⟩
  · rcases h.1.st with e | ⟨b, off, ha, hlt, hc⟩
    · exact .inl e
    · refine .inr ⟨b, off, ha, by omega, fun j x hx => ?_⟩
      rw [← hc j x hx]
      exact World.cell?_of_block (hb.block b hlt (by simpa using hT _ ha))
  · rcases h.1.sn with e | ⟨b, off, ha, hlt, hc⟩
    · exact .inl e
    · refine .inr ⟨b, off, ha, by omega, fun j x hx => ?_⟩
      rw [← hc j x hx]
      exact World.cell?_of_block (hb.block b hlt (by simpa using hN _ ha))

theorem kept_new {p : Nat} {w2 w3 : World} {cs : Array Value} {t : TypeId} {r : Obj} (hb : On p ((w2.alloc (.cells cs t)).alloc r).drew w3) (hp : p < w2.heap.size) : w3.heap[w2.heap.size]? = some (.cells cs t (0, 0)) := by
  rw [hb.block w2.heap.size (by show w2.heap.size < (World.alloc _ _).heap.size; simp; omega) (by simp; omega)]
  show (World.alloc _ _).heap[w2.heap.size]? = _
  rw [Below.heap_alloc _ _ w2.heap.size (by simp)]
  exact heap_alloc_new w2 _

set_option maxRecDepth 100000 in
set_option maxHeartbeats 2000000 in
theorem draw_Say (hdm : DM) (a : Option Addr) (len cap : Nat) (w : World) (hlen : len ≤ 1048576) (hc : dw.Code w w.heap.size a len) :
    Calls Tryd.prog 20 #[.slice a len cap] w fun e w' => (∃ no c i ts ns ta na tc nc, e = .returned (.tuple #[.int .i64 no, .agg #[.int .i64 c, .int .i64 i, .slice ta ts.length tc, .slice na ns.length nc]]) ∧ (-1 ≤ no ∧ no ≤ 65536) ∧ Lies w' c i ts ns ta na tc nc) ∧ Below w.heap.size w w' := by
  have hb0 : Below w.heap.size w (w.alloc (.cells #[.int .i64 0, .int .i64 0, .slice none 0 0, .slice none 0 0] 27)) := (Below.refl _ _).alloc (Nat.le_refl _) _
  have hcode := (hc.below hb0 (Nat.le_refl _)).mono hb0.size
  have h1 := draw_new a len cap _ hlen hcode
  rw [World.size_alloc] at h1
  clear hc hcode
  go_enter Tryd.func20, Tryd.ntmps20
  go_wp2_with (first | (go_at_call 50; refine h1.mono ?_; rintro e w1 ⟨rfl, hc1, hb1⟩) | (go_at_call 49; refine (hdm (w.heap.size + 1) a len cap w1 hc1).mono ?_; intro e w2 hout; obtain ⟨⟨c, i, ts, ns, ta, na, tc, nc, rfl, hl, hta, hna⟩, hc2, hb2⟩ := lies_of hout; have HL : Hid (Lies w2 c i ts ns ta na tc nc) := hl; clear hl hout))
  have hw1 : w.heap.size + 2 ≤ w1.heap.size := by have := hc1.lt; omega
  have hw2 := hb2.size
  have hT : Hid (∀ x, ta = some x → w.heap.size + 2 ≤ x.block) := fun x hx => by have := hta x hx; omega
  have hN : Hid (∀ x, na = some x → w.heap.size + 2 ≤ x.block) := fun x hx => by have := hna x hx; omega
  have g3 := draw_pick_int (w.heap.size + 1) a len cap (w2.alloc (.cells #[.int .i64 c, .int .i64 i, .slice ta ts.length tc, .slice na ns.length nc] 27)).heap.size 5 chans ((w2.alloc (.cells #[.int .i64 c, .int .i64 i, .slice ta ts.length tc, .slice na ns.length nc] 27)).alloc (.cells (chans.map (Value.int .i64)).toArray 3)).drew (by omega) (by simp; omega) (at_list _ chans 3) ((hc2.alloc _).alloc _)
  rw [World.size_alloc] at g3
  have HB1 : Hid (Below (w.heap.size + 1) (w.alloc (.cells #[.int .i64 0, .int .i64 0, .slice none 0 0, .slice none 0 0] 27)) w1) := hb1
  have HB2 : Hid (On (w.heap.size + 1) w1 w2) := hb2
  clear h1 hb1 hb2 hta hna hc1 hc2
  go_region_with (go_at_call 59; refine g3.mono ?_; rintro e w3 ⟨⟨z, hz, rfl⟩, hc3, hb3⟩; have hz1 := chans_in z hz; have hb4 : On (w.heap.size + 1) w2 w3 := ((((On.refl (w.heap.size + 1) w2).alloc _).alloc _).drew).trans hb3; obtain ⟨⟨q0, q1, q2, q3⟩, f0, f1, f2, f3⟩ := box4 (w := w) (x := .int .i64 0) (y := .int .i64 0) (z := .slice none 0 0) (u := .slice none 0 0) (t := 27) (W := w3) (res4 HB1.out (HB2.out.trans hb4)); have hm3 := kept_new hb3 (by omega); have r0 := cell_of (o := 0) hm3 rfl; have r1 := cell_of (o := 1) hm3 rfl; have r2 := cell_of (o := 2) hm3 rfl; have r3 := cell_of (o := 3) hm3 rfl; have HB4 : Hid (On (w.heap.size + 1) w2 w3) := hb4; clear hb4 hb3 hc3 hz hm3)
  all_goals clear g3
  all_goals go_wp2
  all_goals refine bodyPost_ret (v := .tuple #[.int .i64 z, .agg #[.int .i64 c, .int .i64 i, .slice ta ts.length tc, .slice na ns.length nc]]) (by simp [results, Tryd.results20, go_sem, q0, q1, q2, q3]) rfl ⟨⟨z, c, i, ts, ns, ta, na, tc, nc, rfl, hz1, ?_⟩, ?_⟩
  all_goals first
    | (have hT0 : ∀ x, ta = some x → x.block ≠ w.heap.size := fun x hx => by have := hT.out x hx; omega
       have hN0 : ∀ x, na = some x → x.block ≠ w.heap.size := fun x hx => by have := hN.out x hx; omega
       exact ((((HL.out.more HB4.out (fun x hx => by have := hT.out x hx; omega) (fun x hx => by have := hN.out x hx; omega)).set hT0 hN0 _).set hT0 hN0 _).set hT0 hN0 _).set hT0 hN0 _)
    | (have hb2' : Below w.heap.size w w3 := hb0.trans ((res4 HB1.out (HB2.out.trans HB4.out)).mono (by simp))
       exact (((hb2'.setCell (p := ⟨w.heap.size, 0, none⟩) (Nat.le_refl _) _).setCell (p := ⟨w.heap.size, 1, none⟩) (Nat.le_refl _) _).setCell (p := ⟨w.heap.size, 2, none⟩) (Nat.le_refl _) _).setCell (p := ⟨w.heap.size, 3, none⟩) (Nat.le_refl _) _)
end Go.Proofs.YtipjhlfajefefaaDoor.dms
