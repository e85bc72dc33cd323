/- A method that grows while it is drawn: how it is kept from step to step, and what is handed out. -/
import Derived.Test.YtipjhlfajefefaaDoorDrawMethLib
namespace Go.Proofs.YtipjhlfajefefaaDoor.dm
set_option linter.unusedVariables false
open Go.ChangeShapes Go.WideShapes Go.ChangeAt Go.RowKit Go.Proofs.YtipjhlfajefefaaDoor.dw Go.Proofs.YtipjhlfajefefaaDoor.bx Go.Proofs.YtipjhlfajefefaaDoor.me Go.Proofs.YtipjhlfajefefaaDoor.mp

theorem infoS : (Tryd.prog.info? 9).map (fun i => (i.zero, i.size, i.bytes)) = some (some (.string ByteArray.empty), 1, 16) := by kernel_rfl
theorem infoI : (Tryd.prog.info? 3).map (fun i => (i.zero, i.size, i.bytes)) = some (some (.int .i64 0), 1, 8) := by kernel_rfl
def zeros : Array Value := #[.int .i64 0, .int .i64 0, .slice none 0 0, .slice none 0 0]

/-- the method as it has grown, and all that is to stay -/
structure St (w : World) (p : Nat) (a : Option Addr) (len cap rb : Nat) (x y : Int) (tv nv : Value) (ts : List ByteArray) (ns : List Int) (m : Nat) (wr : World) : Prop where
  box : Bx wr w.heap.size rb 27 (.int .i64 x) (.int .i64 y) tv nv ts ns [(w.heap.size, .cells zeros 27 (0, 0))]
  cur : Cur wr p a len cap
  on : On p w wr
  lo : w.heap.size < rb
  tl : ts.length + ns.length ≤ m
  tx : ∀ t ∈ ts, t.size ≤ 256
  nx : ∀ n ∈ ns, (Lit.int .i64 n).wf = true

theorem fresh {p b i : Nat} {a w : World} (h : On p a w) (hb : a.heap.size ≤ b) (v : Value) : On p a (w.setCell ⟨b, i, none⟩ v) :=
  ⟨h.os, h.tape, h.output, by simpa [World.setCell] using h.size, fun k hk hp => (Below.heap_setCell w ⟨b, i, none⟩ v k (by show k ≠ b; omega)).trans (h.block k hk hp)⟩
theorem other {w : World} {p b i : Nat} {a : Option Addr} {len cap : Nat} (h : Cur w p a len cap) (hb : p < b) (v : Value) : Cur (w.setCell ⟨b, i, none⟩ v) p a len cap := by
  have hp := h.lt
  obtain ⟨h1, h2, j, x, h3, h4⟩ := h
  have hblk : ∀ k, k ≠ b → (w.setCell ⟨b, i, none⟩ v).heap[k]? = w.heap[k]? := fun k hk => Below.heap_setCell w ⟨b, i, none⟩ v k hk
  refine ⟨h1, ?_, j, x, h3, by rw [hblk p (by omega)]; exact h4⟩
  rcases h2 with h | ⟨g, off, ha, hlt, hc⟩
  · exact .inl h
  · refine .inr ⟨g, off, ha, hlt, fun m hm => ?_⟩
    obtain ⟨u, hu, hcell⟩ := hc m hm
    refine ⟨u, hu, ?_⟩
    rw [← hcell]
    simp only [World.cell?, hblk g (by omega)]

def nums6 (m : Int) : List Int := [0, 1, 1, 0, 2, m]
def badIds : List Int := [-1, 12, 1000]
theorem badIds_in : ∀ z ∈ badIds, -1 ≤ z ∧ z ≤ 1000 := by decide
def badCls : List Int := [-1, 101, 61]
theorem badCls_in : ∀ z ∈ badCls, -1 ≤ z ∧ z ≤ 1000 := by decide
def sizes3 : List Int := [3, 255, 256]
theorem sizes3_in : ∀ z ∈ sizes3, 0 ≤ z ∧ z ≤ 256 := by decide
def badNums : List Int := [-1, 256, 65536, 4294967296]
theorem badNums_in : ∀ z ∈ badNums, (Lit.int .i64 z).wf = true := by decide
theorem most_wf (z : Int) : (Lit.int .i64 (sz.mostOf z)).wf = true := by
  unfold sz.mostOf
  split
  · decide
  split
  · decide
  split
  · decide
  split <;> decide
theorem nums6_wf {m : Int} (hm : (Lit.int .i64 m).wf = true) : ∀ z ∈ nums6 m, (Lit.int .i64 z).wf = true := by
  intro z hz
  simp only [nums6, List.mem_cons, List.not_mem_nil, or_false] at hz
  rcases hz with rfl | rfl | rfl | rfl | rfl | rfl
  all_goals first | exact hm | decide

section
variable {w wr w2 : World} {p : Nat} {a : Option Addr} {len cap rb : Nat} {x y : Int} {tv nv : Value} {ts : List ByteArray} {ns : List Int} {m : Nat}

theorem St.later (h : St w p a len cap rb x y tv nv ts ns m wr) (hp : p < w.heap.size) (hon : On p wr w2) (hcur : Cur w2 p a len cap) : St w p a len cap rb x y tv nv ts ns m w2 :=
  { h with
    box := Bx.on h.box hon hp (fun q hq => by rw [List.mem_singleton] at hq; subst hq; show w.heap.size ≠ p; omega)
    cur := hcur
    on := h.on.trans hon }
theorem St.app_text (h : St w p a len cap rb x y tv nv ts ns m wr) (hp : p < w.heap.size) (hm : m ≤ 10) (z : ByteArray) (hz : z.size ≤ 256) :
    ∃ g c w3, (Builtin.append_ #[24, 24] 24 #[tv, .slice (some ⟨wr.heap.size, 0, none⟩) 1 1]).run Tryd.prog (wr.alloc (.cells #[.string z] 9)) = .ok (.slice (some ⟨g, 0, none⟩) (ts.length + 1) c) w3 ∧ w3.cell? ⟨rb, 2, none⟩ = some tv ∧ w3.frozen? ⟨rb, 2, none⟩ = false ∧ w3.heap[rb]? = some (.cells #[.int .i64 x, .int .i64 y, tv, nv] 27 (0, 0)) ∧ w3.heap[w.heap.size]? = some (.cells zeros 27 (0, 0)) ∧
      St w p a len cap rb x y (.slice (some ⟨g, 0, none⟩) (ts.length + 1) c) nv (ts ++ [z]) ns (m + 1) (w3.setCell ⟨rb, 2, none⟩ (.slice (some ⟨g, 0, none⟩) (ts.length + 1) c)) := by
  obtain ⟨i0, hi, hz0, hz1, hz2⟩ := info_parts infoS
  have hsz := h.on.size
  have htl := h.tl
  have hrl := h.box.lt
  obtain ⟨g, c, w3, hrun, hown, hgrow, hga, hlt⟩ := run_append_lies (P := Tryd.prog) (wr.alloc (.cells #[.string z] 9)) 24 24 w.heap.size 9 i0 (.string ByteArray.empty) 1 16 Tryd.underlying24 hi hz0 hz1 hz2 rfl (by decide) tv ts.length (ts.map Value.string) (h.box.ot.alloc _) ⟨wr.heap.size, 0, none⟩ 1 1 [.string z] rfl (cell_one_new _ _ _) (by intro u hu; simp at hu; subst hu; rfl) (by decide) (by unfold maxLen; omega) (by omega) (by simp; omega) (wr.heap.size + 1) (by simp)
  have h2 := h.box.below ((Below.refl _ _).alloc (Nat.le_refl _) (.cells #[.string z] 9))
  have b1 := (hgrow.block _ h2.lt (Ne.symm h2.nt)).trans h2.blk
  have hk := h2.keep _ (List.mem_singleton.2 rfl)
  have b2 := (hgrow.block _ (Array.getElem?_eq_some_iff.1 hk.1).1 (Ne.symm hk.2.2.1)).trans hk.1
  refine ⟨g, c, w3, hrun, cell_of (o := 2) b1 rfl, free_of (o := 2) b1, b1, b2, ?_⟩
  have hbx := h2.text hown hgrow (by simpa using hga)
  have hr : ∀ k, tv.ownBlock = some k → w.heap.size ≤ k := fun k hk => (own_lt h2.ot hk).1
  exact {
    box := hbx
    cur := other ((h.cur.alloc _).grown hgrow (fun k hk => Nat.lt_of_lt_of_le hp (hr k hk))) (by have := h.lo; omega) _
    on := fresh ((h.on.alloc _).grown hgrow hr) (by have := h.lo; omega) _
    lo := h.lo
    tl := by simp; omega
    tx := fun t ht => by
      rcases List.mem_append.1 ht with ht | ht
      · exact h.tx t ht
      · rw [List.mem_singleton] at ht; subst ht; exact hz
    nx := h.nx }
theorem St.app_num (h : St w p a len cap rb x y tv nv ts ns m wr) (hp : p < w.heap.size) (hm : m ≤ 10) (z : Int) (hz : (Lit.int .i64 z).wf = true) :
    ∃ g c w3, (Builtin.append_ #[25, 25] 25 #[nv, .slice (some ⟨wr.heap.size, 0, none⟩) 1 1]).run Tryd.prog (wr.alloc (.cells #[.int .i64 z] 3)) = .ok (.slice (some ⟨g, 0, none⟩) (ns.length + 1) c) w3 ∧ w3.cell? ⟨rb, 3, none⟩ = some nv ∧ w3.frozen? ⟨rb, 3, none⟩ = false ∧
      St w p a len cap rb x y tv (.slice (some ⟨g, 0, none⟩) (ns.length + 1) c) ts (ns ++ [z]) (m + 1) (w3.setCell ⟨rb, 3, none⟩ (.slice (some ⟨g, 0, none⟩) (ns.length + 1) c)) := by
  obtain ⟨j0, hi, hz0, hz1, hz2⟩ := info_parts infoI
  have hsz := h.on.size
  have htl := h.tl
  have hrl := h.box.lt
  obtain ⟨g, c, w3, hrun, hown, hgrow, hga, hlt⟩ := run_append_lies (P := Tryd.prog) (wr.alloc (.cells #[.int .i64 z] 3)) 25 25 w.heap.size 3 j0 (.int .i64 0) 1 8 Tryd.underlying25 hi hz0 hz1 hz2 rfl (by decide) nv ns.length (ns.map (Value.int .i64)) (h.box.on.alloc _) ⟨wr.heap.size, 0, none⟩ 1 1 [.int .i64 z] rfl (cell_one_new _ _ _) (by intro u hu; simp at hu; subst hu; rfl) (by decide) (by unfold maxLen; omega) (by omega) (by simp; omega) (wr.heap.size + 1) (by simp)
  have h2 := h.box.below ((Below.refl _ _).alloc (Nat.le_refl _) (.cells #[.int .i64 z] 3))
  have b1 := (hgrow.block _ h2.lt (Ne.symm h2.nn)).trans h2.blk
  refine ⟨g, c, w3, hrun, cell_of (o := 3) b1 rfl, free_of (o := 3) b1, ?_⟩
  have hbx := h2.num hown hgrow (by simpa using hga)
  have hr : ∀ k, nv.ownBlock = some k → w.heap.size ≤ k := fun k hk => (own_lt h2.on hk).1
  exact {
    box := hbx
    cur := other ((h.cur.alloc _).grown hgrow (fun k hk => Nat.lt_of_lt_of_le hp (hr k hk))) (by have := h.lo; omega) _
    on := fresh ((h.on.alloc _).grown hgrow hr) (by have := h.lo; omega) _
    lo := h.lo
    tl := by simp; omega
    tx := h.tx
    nx := fun t ht => by
      rcases List.mem_append.1 ht with ht | ht
      · exact h.nx t ht
      · rw [List.mem_singleton] at ht; subst ht; exact hz }
end

/-- the cells of the method and of the answer -/
theorem result {w wr : World} {p : Nat} {a : Option Addr} {len cap rb : Nat} {x y : Int} {tv nv : Value} {ts : List ByteArray} {ns : List Int} {m : Nat} (h : St w p a len cap rb x y tv nv ts ns m wr) :
    (wr.cell? ⟨w.heap.size, 0, none⟩ = some (.int .i64 0) ∧ wr.cell? ⟨w.heap.size, 1, none⟩ = some (.int .i64 0) ∧ wr.cell? ⟨w.heap.size, 2, none⟩ = some (.slice none 0 0) ∧ wr.cell? ⟨w.heap.size, 3, none⟩ = some (.slice none 0 0) ∧
    wr.cell? ⟨rb, 0, none⟩ = some (.int .i64 x) ∧ wr.cell? ⟨rb, 1, none⟩ = some (.int .i64 y) ∧ wr.cell? ⟨rb, 2, none⟩ = some tv ∧ wr.cell? ⟨rb, 3, none⟩ = some nv ∧
    wr.frozen? ⟨w.heap.size, 0, none⟩ = false ∧ wr.frozen? ⟨w.heap.size, 1, none⟩ = false ∧ wr.frozen? ⟨w.heap.size, 2, none⟩ = false ∧ wr.frozen? ⟨w.heap.size, 3, none⟩ = false) ∧
    (wr.frozen? ⟨rb, 0, none⟩ = false ∧ wr.frozen? ⟨rb, 1, none⟩ = false ∧ wr.frozen? ⟨rb, 2, none⟩ = false ∧ wr.frozen? ⟨rb, 3, none⟩ = false) := by
  have h1 := (h.box.keep _ (List.mem_singleton.2 rfl)).1
  have h2 := h.box.blk
  unfold zeros at h1
  exact ⟨⟨cell_of (o := 0) h1 rfl, cell_of (o := 1) h1 rfl, cell_of (o := 2) h1 rfl, cell_of (o := 3) h1 rfl, cell_of (o := 0) h2 rfl, cell_of (o := 1) h2 rfl, cell_of (o := 2) h2 rfl, cell_of (o := 3) h2 rfl, free_of (o := 0) h1, free_of (o := 1) h1, free_of (o := 2) h1, free_of (o := 3) h1⟩, free_of (o := 0) h2, free_of (o := 1) h2, free_of (o := 2) h2, free_of (o := 3) h2⟩

theorem wf_of {x : Int} (h : -1 ≤ x ∧ x ≤ 1000) : (Lit.int .i64 x).wf = true := WalkArith.wf_i64 (by omega)

section
variable {w wr : World} {p : Nat} {a : Option Addr} {len cap rb : Nat} {x y : Int} {tv nv : Value} {ts : List ByteArray} {ns : List Int} {m : Nat}
theorem St.setY (h : St w p a len cap rb x y tv nv ts ns m wr) (hp : p < w.heap.size) (z : Int) : St w p a len cap rb x z tv nv ts ns m (wr.setCell ⟨rb, 1, none⟩ (.int .i64 z)) :=
  { h with
    box := h.box.set1 _
    cur := other h.cur (by have := h.lo; omega) _
    on := fresh h.on (by have := h.lo; omega) _ }
theorem St.setX (h : St w p a len cap rb x y tv nv ts ns m wr) (hp : p < w.heap.size) (z : Int) : St w p a len cap rb z y tv nv ts ns m (wr.setCell ⟨rb, 0, none⟩ (.int .i64 z)) :=
  { h with
    box := Bx.set0 h.box _
    cur := other h.cur (by have := h.lo; omega) _
    on := fresh h.on (by have := h.lo; omega) _ }
theorem num_at {gn nc : Nat} {n1 : Int} (h : St w p a len cap rb x y tv (.slice (some ⟨gn, 0, none⟩) (ns.length + 1) nc) ts (n1 :: ns) m wr) : wr.cell? ⟨gn, 0, none⟩ = some (.int .i64 n1) ∧ wr.frozen? ⟨gn, 0, none⟩ = false ∧ gn ≠ rb ∧ gn ≠ w.heap.size := by
  obtain ⟨-, -, k1, k2⟩ := h.box.keep _ (List.mem_singleton.2 rfl)
  have hgr : gn ≠ rb := fun e => h.box.nn (by rw [← e]; rfl)
  have hgw : gn ≠ w.heap.size := fun e => k2 (by rw [e]; rfl)
  have hcell := World.ownsRow.cells h.box.on (g := gn) rfl 0 (.int .i64 n1) rfl
  obtain ⟨_, hh | ⟨g', cap', cur, hv, _, hg, _⟩⟩ := h.box.on
  · simp at hh
  · simp at hv
    obtain ⟨rfl, _⟩ := hv
    exact ⟨by simpa [Addr.add] using hcell, free_of (o := 0) hg, hgr, hgw⟩
theorem St.setN {gn nc : Nat} {n1 : Int} (h : St w p a len cap rb x y tv (.slice (some ⟨gn, 0, none⟩) (ns.length + 1) nc) ts (n1 :: ns) m wr) (hp : p < w.heap.size) (z : Int) (hz : (Lit.int .i64 z).wf = true) : St w p a len cap rb x y tv (.slice (some ⟨gn, 0, none⟩) (ns.length + 1) nc) ts (z :: ns) m (wr.setCell ⟨gn, 0, none⟩ (.int .i64 z)) := by
  have hlo : w.heap.size ≤ gn := (own_lt h.box.on (g := gn) rfl).1
  exact {
    box := Bx.num0 h.box z
    cur := other h.cur (by omega) _
    on := fresh h.on hlo _
    lo := h.lo
    tl := by have := h.tl; simpa using this
    tx := h.tx
    nx := fun t ht => by
      rcases List.mem_cons.1 ht with rfl | ht
      · exact hz
      · exact h.nx t (List.mem_cons_of_mem _ ht) }
/-- what is handed out -/
def Out (p : Nat) (a : Option Addr) (len cap : Nat) (w : World) (e : Ending) (w' : World) : Prop :=
  (∃ (c i : Int) (tv nv : Value) (ts : List ByteArray) (ns : List Int), e = .returned (.agg #[.int .i64 c, .int .i64 i, tv, nv]) ∧ (Lit.int .i64 c).wf = true ∧ (Lit.int .i64 i).wf = true ∧ ts.length ≤ 20 ∧ ns.length ≤ 20 ∧ (∀ t ∈ ts, t.size ≤ 256) ∧ (∀ n ∈ ns, (Lit.int .i64 n).wf = true) ∧ w'.ownsRow w.heap.size 9 1 tv ts.length (ts.map Value.string) ∧ w'.ownsRow w.heap.size 3 1 nv ns.length (ns.map (Value.int .i64))) ∧ Cur w' p a len cap ∧ On p w w'
theorem St.ends (h : St w p a len cap rb x y tv nv ts ns m wr) (hp : p < w.heap.size) (hm : m ≤ 10) (wx : (Lit.int .i64 x).wf = true) (wy : (Lit.int .i64 y).wf = true) (v0 v1 v2 v3 : Value) :
    Out p a len cap w (.returned (.agg #[.int .i64 x, .int .i64 y, tv, nv])) ((((wr.setCell ⟨w.heap.size, 0, none⟩ v0).setCell ⟨w.heap.size, 1, none⟩ v1).setCell ⟨w.heap.size, 2, none⟩ v2).setCell ⟨w.heap.size, 3, none⟩ v3) := by
  obtain ⟨-, -, k1, k2⟩ := h.box.keep _ (List.mem_singleton.2 rfl)
  have htl := h.tl
  refine ⟨⟨x, y, tv, nv, ts, ns, rfl, wx, wy, by omega, by omega, h.tx, h.nx, ?_, ?_⟩, ?_, ?_⟩
  · exact own_set (own_set (own_set (own_set h.box.ot (p := ⟨w.heap.size, 0, none⟩) k1 _) (p := ⟨w.heap.size, 1, none⟩) k1 _) (p := ⟨w.heap.size, 2, none⟩) k1 _) (p := ⟨w.heap.size, 3, none⟩) k1 _
  · exact own_set (own_set (own_set (own_set h.box.on (p := ⟨w.heap.size, 0, none⟩) k2 _) (p := ⟨w.heap.size, 1, none⟩) k2 _) (p := ⟨w.heap.size, 2, none⟩) k2 _) (p := ⟨w.heap.size, 3, none⟩) k2 _
  · exact other (other (other (other h.cur hp _) hp _) hp _) hp _
  · exact fresh (fresh (fresh (fresh h.on (Nat.le_refl _) _) (Nat.le_refl _) _) (Nat.le_refl _) _) (Nat.le_refl _) _
end
end Go.Proofs.YtipjhlfajefefaaDoor.dm
