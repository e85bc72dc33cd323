/- Exchanges and bindings in rows of memory, and the functions that ask one of them, the specification's and the program's; new memory alone. -/
import Derived.Test.YtnooibeohdfcmaaGreatDoorRouteCmp
import Derived.Test.YtnooibeohdfcmaaGreatDoorNameOkWalks
import Derived.Deep.RegionWith
import Derived.BigRegion
import Derived.Test.YtnooibeohdfcmaaGreatDoorAppendAny
namespace Go.Proofs.YtnooibeohdfcmaaGreatDoor.rr
open Go.ChangeShapes Go.WideShapes Go.ChangeAt Go.RowKit Go.Proofs.YtnooibeohdfcmaaGreatDoor.rc
set_option linter.unusedVariables false

structure Ex where
  n : ByteArray
  k : Int
structure Bi where
  x : ByteArray
  k : ByteArray
  q : ByteArray

/-- the cells of block g from its first on hold the exchanges l -/
def RE (w : World) (g : Nat) (l : List Ex) : Prop := g < w.heap.size ∧ ∀ (i : Nat) (e : Ex), l[i]? = some e → w.cell? ⟨g, i * 2, none⟩ = some (.string e.n) ∧ w.cell? ⟨g, i * 2 + 1, none⟩ = some (.int .i64 e.k)
def RB (w : World) (g : Nat) (l : List Bi) : Prop := g < w.heap.size ∧ ∀ (i : Nat) (b : Bi), l[i]? = some b → w.cell? ⟨g, i * 3, none⟩ = some (.string b.x) ∧ w.cell? ⟨g, i * 3 + 1, none⟩ = some (.string b.k) ∧ w.cell? ⟨g, i * 3 + 2, none⟩ = some (.string b.q)
theorem own_nq (g n c : Nat) : Hid (apa.NQ (some ⟨g, 0, none⟩) ⟨g, 0, none⟩ n c) := Or.inl rfl
theorem nil_nq (g : Nat) {n : Nat} (h : n = 0) : Hid (apa.NQ none ⟨g, 0, none⟩ n 0) := Or.inr ⟨rfl, h, rfl⟩
theorem RE.below {w w' : World} {g : Nat} {l : List Ex} (h : RE w g l) (hb : Below w.heap.size w w') : RE w' g l :=
  ⟨Nat.lt_of_lt_of_le h.1 hb.size, fun i e he => by
    obtain ⟨h1, h2⟩ := h.2 i e he
    exact ⟨(hb.cell (p := ⟨g, i * 2, none⟩) h.1).trans h1, (hb.cell (p := ⟨g, i * 2 + 1, none⟩) h.1).trans h2⟩⟩
theorem RB.below {w w' : World} {g : Nat} {l : List Bi} (h : RB w g l) (hb : Below w.heap.size w w') : RB w' g l :=
  ⟨Nat.lt_of_lt_of_le h.1 hb.size, fun i e he => by
    obtain ⟨h1, h2, h3⟩ := h.2 i e he
    exact ⟨(hb.cell (p := ⟨g, i * 3, none⟩) h.1).trans h1, (hb.cell (p := ⟨g, i * 3 + 1, none⟩) h.1).trans h2, (hb.cell (p := ⟨g, i * 3 + 2, none⟩) h.1).trans h3⟩⟩

def exOk (e : Ex) : Bool := nm.good e.n && decide (0 ≤ e.k ∧ e.k ≤ 2)
theorem exchange_ok (e : Ex) (w : World) (hs : e.n.size ≤ 1048576) : Calls Tryz.prog 49 #[.agg #[.string e.n, .int .i64 e.k]] w fun r w' => r = .returned (.bool (exOk e)) ∧ Below w.heap.size w w' := by
  obtain ⟨n, k⟩ := e
  have hn := fun W => nm.impl_name n W hs
  unfold exOk
  cases hg : nm.good n with
  | false =>
    simp only [hg] at hn
    clear hg
    go_enter Tryz.func49, Tryz.ntmps49
    go_wp2_with (go_at_call 53; refine (hn _).mono ?_; rintro e w0 ⟨rfl, hw0⟩; rw [← hw0]; clear hw0 w0)
    go_ret
    exact ⟨rfl, (Below.refl _ _).alloc (Nat.le_refl _) _⟩
  | true =>
    simp only [hg] at hn
    clear hg
    by_cases h0 : 0 ≤ k
    · by_cases h2 : k ≤ 2
      · go_enter Tryz.func49, Tryz.ntmps49
        go_wp2_with (go_at_call 53; refine (hn _).mono ?_; rintro e w0 ⟨rfl, hw0⟩; rw [← hw0]; clear hw0 w0)
        go_ret
        exact ⟨by simp [h0, h2], (Below.refl _ _).alloc (Nat.le_refl _) _⟩
      · go_enter Tryz.func49, Tryz.ntmps49
        go_wp2_with (go_at_call 53; refine (hn _).mono ?_; rintro e w0 ⟨rfl, hw0⟩; rw [← hw0]; clear hw0 w0)
        go_ret
        exact ⟨by simp; omega, (Below.refl _ _).alloc (Nat.le_refl _) _⟩
    · go_enter Tryz.func49, Tryz.ntmps49
      go_wp2_with (go_at_call 53; refine (hn _).mono ?_; rintro e w0 ⟨rfl, hw0⟩; rw [← hw0]; clear hw0 w0)
      go_ret
      exact ⟨by simp; omega, (Below.refl _ _).alloc (Nat.le_refl _) _⟩

/-- a binding is ahead of another one -/
def before (a b : Bi) : Bool := if a.x = b.x then (if a.k = b.k then lt a.q b.q else lt a.k b.k) else lt a.x b.x
theorem ne_of {a b : ByteArray} (h : a ≠ b) : (a.toList == b.toList) = false := by simp; exact fun e => h (of_same e)
theorem spec_before (a b : Bi) (w : World) : Calls Tryz.prog 44 #[.agg #[.string a.x, .string a.k, .string a.q], .agg #[.string b.x, .string b.k, .string b.q]] w fun r w' => r = .returned (.bool (before a b)) ∧ Below w.heap.size w w' := by
  obtain ⟨ax, ak, aq⟩ := a
  obtain ⟨bx, bk, bq⟩ := b
  have hb : Below w.heap.size w ((w.alloc (.cells #[.string ax, .string ak, .string aq] 45)).alloc (.cells #[.string bx, .string bk, .string bq] 45)) := ((Below.refl _ _).alloc (Nat.le_refl _) _).alloc (by simp) _
  by_cases hx : ax = bx
  · subst hx
    by_cases hk : ak = bk
    · subst hk
      have e : before ⟨ax, ak, aq⟩ ⟨ax, ak, bq⟩ = lt aq bq := by simp [before]
      rw [e]
      go_enter Tryz.func44, Tryz.ntmps44
      go_wp2
      go_ret
      exact ⟨rfl, hb⟩
    · have e : before ⟨ax, ak, aq⟩ ⟨ax, bk, bq⟩ = lt ak bk := by simp [before, hk]
      have n1 := ne_of hk
      have n2 : ¬ ak.toList = bk.toList := by simpa using n1
      rw [e]
      go_enter Tryz.func44, Tryz.ntmps44
      go_wp2
      go_ret
      exact ⟨rfl, hb⟩
  · have e : before ⟨ax, ak, aq⟩ ⟨bx, bk, bq⟩ = lt ax bx := by simp [before, hx]
    have n1 := ne_of hx
    have n2 : ¬ ax.toList = bx.toList := by simpa using n1
    rw [e]
    go_enter Tryz.func44, Tryz.ntmps44
    go_wp2
    go_ret
    exact ⟨rfl, hb⟩

/-- the kind of the first exchange of that name, or -1 -/
def kindOf (l : List Ex) (name : ByteArray) : Int := match l.find? (fun e => decide (e.n = name)) with | some e => e.k | none => -1
theorem kind_at {l : List Ex} {name : ByteArray} {i : Nat} {e : Ex} (hno : ∀ j f, j < i → l[j]? = some f → f.n ≠ name) (hi : l[i]? = some e) (he : e.n = name) : kindOf l name = e.k := by
  have : l.find? (fun e => decide (e.n = name)) = some e := by
    rw [List.find?_eq_some_iff_getElem]
    obtain ⟨hlt, hget⟩ := List.getElem?_eq_some_iff.1 hi
    refine ⟨by simpa using he, i, hlt, hget, fun j hj => ?_⟩
    simpa using hno j l[j] hj (List.getElem?_eq_getElem (by omega))
  unfold kindOf
  rw [this]
theorem kind_none {l : List Ex} {name : ByteArray} (hno : ∀ (j : Nat) f, l[j]? = some f → f.n ≠ name) : kindOf l name = -1 := by
  have : l.find? (fun e => decide (e.n = name)) = none := by
    rw [List.find?_eq_none]
    intro e he
    obtain ⟨j, hj⟩ := List.mem_iff_getElem?.1 he
    simpa using hno j e hj
  unfold kindOf
  rw [this]
theorem spec_kind (l : List Ex) (g c : Nat) (ba : Option Addr) (m cb : Nat) (name : ByteArray) (w : World) (hl : l.length ≤ 1048576) (hE : RE w g l) (ga : Option Addr) (hga : Hid (apa.NQ ga ⟨g, 0, none⟩ l.length c)) :
    Calls Tryz.prog 33 #[.agg #[.slice ga l.length c, .slice ba m cb], .string name] w fun r w' => r = .returned (.int .i64 (kindOf l name)) ∧ Below w.heap.size w w' := by
  have hb : Below w.heap.size w (w.alloc (.cells #[.slice ga l.length c, .slice ba m cb] 27)) := (Below.refl _ _).alloc (Nat.le_refl _) _
  have hE2 := hE.below hb
  have c0 : (w.alloc (.cells #[.slice ga l.length c, .slice ba m cb] 27)).cell? ⟨w.heap.size, 0, none⟩ = some (.slice ga l.length c) := by simp
  obtain ⟨W, hW⟩ : ∃ W, w.alloc (.cells #[.slice ga l.length c, .slice ba m cb] 27) = W := ⟨_, rfl⟩
  rw [hW] at hb hE2 c0
  have HE : Hid (RE W g l) := hE2
  clear hE hE2
  go_enter Tryz.func33, Tryz.ntmps33
  go_wp2
  clear hW
  go_loop [5] (fun v => ∃ k : Nat, k ≤ l.length ∧ v = .int .i64 k ∧ Hid (∀ (j : Nat) f, j < k → l[j]? = some f → f.n ≠ name)) (fun v => l.length - (intOf v).toNat)
  case atStart => exact ⟨0, Nat.zero_le _, rfl, fun j f hj => by omega⟩
  case round =>
    obtain ⟨k, hk, rfl, hno⟩ := hrel
    by_cases hkl : k < l.length
    · have hget : l[k]? = some l[k] := List.getElem?_eq_getElem hkl
      have hqa : ga = some ⟨g, 0, none⟩ := hga.out.at (by omega)
      obtain ⟨cn, ck⟩ := HE.out.2 k l[k] hget
      have HG : Hid (l[k]? = some l[k]) := hget
      obtain ⟨⟨en, ek⟩, he⟩ : ∃ e, l[k] = e := ⟨_, rfl⟩
      rw [he] at cn ck HG
      clear hget he
      by_cases hen : en = name
      · subst hen
        have hfin := kind_at hno.out HG.out rfl
        go_wp2
        go_ret
        exact ⟨rfl, hb⟩
      · have n1 := ne_of hen
        have n2 : ¬ en.toList = name.toList := by simpa using n1
        go_wp2
        try rw [← hqa]
        try rw [← hqb]
        go_round
        case rel =>
          refine ⟨k + 1, by omega, by go_num, fun j f hj hf => ?_⟩
          by_cases e : j = k
          · subst e
            rw [HG.out] at hf
            cases hf
            exact hen
          · exact hno.out j f (by omega) hf
        case measure => simp [intOf]; omega
    · obtain rfl : k = l.length := by omega
      have hfin := kind_none (l := l) (name := name) (fun j f hf => hno.out j f (List.getElem?_eq_some_iff.1 hf).1 hf)
      go_wp2
      go_ret
      exact ⟨rfl, hb⟩

/-- the order of bindings as the program asks it -/
def cmpB (a b : Bi) : Int := or3 (cmpT a.x b.x) (cmpT a.k b.k) (cmpT a.q b.q)

/-- the worlds of the region of compareBindings: the row of three numbers is laid, or not yet -/
def Cl (W : World) (r : Obj) (L : Nat → Bool) (w : World) : Prop := (L 15 = false ∧ w = W) ∨ (L 15 = true ∧ w = W.alloc r)
theorem cl_more {W : World} {r : Obj} {L : Nat → Bool} {w : World} {i : Nat} (h : Cl W r L w) (hi : i ≠ 15) : Cl W r (dn.more L i) w := by
  have e : dn.more L i 15 = L 15 := by simp [dn.more]; omega
  unfold Cl
  rw [e]
  exact h
theorem st_quiet {fin : Act} {W : World} {r : Obj} {i : Nat} {o : Oper} (hi : i ≠ 15) (v : Value) (hd : ∀ d, o.dst = some d → fin.tmps[d]? = some v)
    (h : ∀ w, (w = W ∨ w = W.alloc r) → (execOp fin.eval o).run Tryz.prog w = .ok (.value v) w) : dn.Step Tryz.prog fin (Cl W r) i o := by
  intro L w _ h0 hC
  refine ⟨v, hd, ?_⟩
  have hw : w = W ∨ w = W.alloc r := by rcases hC with ⟨_, e⟩ | ⟨_, e⟩ <;> simp [e]
  rw [h w hw]
  exact ⟨rfl, cl_more hC hi⟩
theorem st_cmp {fin : Act} {W : World} {r : Obj} {i : Nat} {o : Oper} (hi : i ≠ 15) (a b : ByteArray) (hd : ∀ d, o.dst = some d → fin.tmps[d]? = some (.int .i64 (cmpT a b)))
    (h : ∀ w, (execOp fin.eval o).run Tryz.prog w = .ok (.enter 65 #[.string a, .string b]) w) : dn.Step Tryz.prog fin (Cl W r) i o := by
  intro L w _ h0 hC
  refine ⟨.int .i64 (cmpT a b), hd, ?_⟩
  rw [h w]
  refine (cmpS a b w).mono ?_
  rintro e w' ⟨he, hw⟩
  exact ⟨he, by rw [hw]; exact cl_more hC hi⟩

theorem at_new (w : World) (cs : Array Value) (t : TypeId) (i : Nat) (v : Value) (h : cs[i]? = some v) : (w.alloc (.cells cs t)).cell? ⟨w.heap.size, i, none⟩ = some v := by
  have := heap_alloc_new w (.cells cs t)
  simp only [World.cell?, this]
  simp [h]
theorem done15 {o : Oper} {L : Nat → Bool} (he : (o.after.any fun e => Region.binds .any e && e.on == 15) = true) (hw : ∀ e ∈ o.after, Region.binds .any e = true → L e.on = true) : L 15 = true := by
  obtain ⟨e, hem, hb⟩ := Array.any_eq_true'.1 he
  simp only [Bool.and_eq_true, beq_iff_eq] at hb
  have := hw e hem hb.1
  rwa [hb.2] at this

theorem st_or {fin : Act} {W : World} {r : Obj} {i : Nat} {o : Oper} (hi : i ≠ 15) (he : (o.after.any fun e => Region.binds .any e && e.on == 15) = true) (args : Array Value) (v : Value) (hd : ∀ d, o.dst = some d → fin.tmps[d]? = some v)
    (h : ∀ w, (execOp fin.eval o).run Tryz.prog w = .ok (.enter 64 args) w) (hc : Calls Tryz.prog 64 args (W.alloc r) fun e w' => e = .returned v ∧ w' = W.alloc r) : dn.Step Tryz.prog fin (Cl W r) i o := by
  intro L w hw h0 hC
  have h15 := done15 he hw
  refine ⟨v, hd, ?_⟩
  rcases hC with ⟨h1, _⟩ | ⟨_, rfl⟩
  · rw [h15] at h1; cases h1
  · rw [h]
    refine hc.mono ?_
    rintro e w2 ⟨he2, hw2⟩
    exact ⟨he2, by rw [hw2]; exact cl_more (Or.inr ⟨h15, rfl⟩) hi⟩

def finB (ax ak aq bx bk bq : ByteArray) (A B R : Nat) : Act := Act.mk (tmps := #[.agg #[.string ax, .string ak, .string aq], .agg #[.string bx, .string bk, .string bq], .pointer (some ⟨A, 0, none⟩), .pointer (some ⟨B, 0, none⟩), .int .i64 (or3 (cmpT ax bx) (cmpT ak bk) (cmpT aq bq)),
  .pointer (some ⟨A, 0, none⟩), .string ax, .pointer (some ⟨B, 0, none⟩), .string bx, .int .i64 (cmpT ax bx), .pointer (some ⟨A, 1, none⟩), .string ak, .pointer (some ⟨B, 1, none⟩), .string bk, .int .i64 (cmpT ak bk), .pointer (some ⟨A, 2, none⟩), .string aq, .pointer (some ⟨B, 2, none⟩), .string bq, .int .i64 (cmpT aq bq), .slice (some ⟨R, 0, none⟩) 3 3, .int .i64 (or3 (cmpT ax bx) (cmpT ak bk) (cmpT aq bq))]) (defers := [])

set_option maxRecDepth 100000 in
set_option maxHeartbeats 1000000 in
theorem compare_bi (a b : Bi) (w : World) : Calls Tryz.prog 40 #[.agg #[.string a.x, .string a.k, .string a.q], .agg #[.string b.x, .string b.k, .string b.q]] w fun r w' => r = .returned (.int .i64 (cmpB a b)) ∧ Below w.heap.size w w' := by
  obtain ⟨ax, ak, aq⟩ := a
  obtain ⟨bx, bk, bq⟩ := b
  have hb : Below w.heap.size w ((w.alloc (.cells #[.string ax, .string ak, .string aq] 45)).alloc (.cells #[.string bx, .string bk, .string bq] 45)) := ((Below.refl _ _).alloc (Nat.le_refl _) _).alloc (by simp) _
  have hA := (Below.heap_alloc (w.alloc (.cells #[.string ax, .string ak, .string aq] 45)) (.cells #[.string bx, .string bk, .string bq] 45) w.heap.size (by simp)).trans (heap_alloc_new w _)
  have hB := heap_alloc_new (w.alloc (.cells #[.string ax, .string ak, .string aq] 45)) (.cells #[.string bx, .string bk, .string bq] 45)
  rw [World.size_alloc] at hB
  have hS : ((w.alloc (.cells #[.string ax, .string ak, .string aq] 45)).alloc (.cells #[.string bx, .string bk, .string bq] 45)).heap.size = w.heap.size + 2 := by simp
  obtain ⟨W, hW⟩ : ∃ W, (w.alloc (.cells #[.string ax, .string ak, .string aq] 45)).alloc (.cells #[.string bx, .string bk, .string bq] 45) = W := ⟨_, rfl⟩
  rw [hW] at hb hA hB hS
  go_enter Tryz.func40, Tryz.ntmps40
  go_wp2
  clear hW
  have hcl : ∀ (o : Nat) (v : Value) (blk : Nat) (cs : Array Value), W.heap[blk]? = some (.cells cs 45 (0, 0)) → cs[o]? = some v → ∀ w', (w' = W.drew ∨ w' = W.drew.alloc (.cells #[.int .i64 (cmpT ax bx), .int .i64 (cmpT ak bk), .int .i64 (cmpT aq bq)] 3)) → w'.cell? ⟨blk, o, none⟩ = some v := by
    intro o v blk cs hblk hv w' hw
    have hlt : blk < W.heap.size := (Array.getElem?_eq_some_iff.1 hblk).1
    rcases hw with rfl | rfl
    · show W.cell? ⟨blk, o, none⟩ = some v
      simp [World.cell?, hblk, hv]
    · have h2 : (W.drew.alloc (.cells #[.int .i64 (cmpT ax bx), .int .i64 (cmpT ak bk), .int .i64 (cmpT aq bq)] 3)).heap[blk]? = W.heap[blk]? := Below.heap_alloc W.drew _ blk hlt
      simp only [World.cell?, h2, hblk]
      simp [hv]
  have a0 := hcl 0 _ _ _ hA rfl
  have a1 := hcl 1 _ _ _ hA rfl
  have a2 := hcl 2 _ _ _ hA rfl
  have b0 := hcl 0 _ _ _ hB rfl
  have b1 := hcl 1 _ _ _ hB rfl
  have b2 := hcl 2 _ _ _ hB rfl
  refine dn.region_done (finB ax ak aq bx bk bq w.heap.size (w.heap.size + 1) W.heap.size) (Cl W.drew (.cells #[.int .i64 (cmpT ax bx), .int .i64 (cmpT ak bk), .int .i64 (cmpT aq bq)] 3)) (by kernel_rfl) (by kernel_rfl) rfl rfl [0, 1, 2, 3] (by kernel_rfl) ?keep (Or.inl ⟨rfl, rfl⟩) ?each ?fin
  case keep =>
    intro s hs
    simp at hs
    rcases hs with rfl | rfl | rfl | rfl <;> rfl
  case each =>
    refine ⟨st_quiet (by decide) _ (by rintro _ ⟨⟩; rfl) (fun w' _ => by kernel_rfl), ?_⟩
    refine ⟨st_quiet (by decide) _ (by rintro _ ⟨⟩; rfl) (fun w' hw => by have hc := a0 w' hw; simp [execOp, finB, Act.eval, go_sem, hc]), ?_⟩
    refine ⟨st_quiet (by decide) _ (by rintro _ ⟨⟩; rfl) (fun w' _ => by kernel_rfl), ?_⟩
    refine ⟨st_quiet (by decide) _ (by rintro _ ⟨⟩; rfl) (fun w' hw => by have hc := b0 w' hw; simp [execOp, finB, Act.eval, go_sem, hc]), ?_⟩
    refine ⟨st_cmp (by decide) ax bx (by rintro _ ⟨⟩; rfl) (fun w' => by kernel_rfl), ?_⟩
    refine ⟨st_quiet (by decide) _ (by rintro _ ⟨⟩; rfl) (fun w' _ => by kernel_rfl), ?_⟩
    refine ⟨st_quiet (by decide) _ (by rintro _ ⟨⟩; rfl) (fun w' hw => by have hc := a1 w' hw; simp [execOp, finB, Act.eval, go_sem, hc]), ?_⟩
    refine ⟨st_quiet (by decide) _ (by rintro _ ⟨⟩; rfl) (fun w' _ => by kernel_rfl), ?_⟩
    refine ⟨st_quiet (by decide) _ (by rintro _ ⟨⟩; rfl) (fun w' hw => by have hc := b1 w' hw; simp [execOp, finB, Act.eval, go_sem, hc]), ?_⟩
    refine ⟨st_cmp (by decide) ak bk (by rintro _ ⟨⟩; rfl) (fun w' => by kernel_rfl), ?_⟩
    refine ⟨st_quiet (by decide) _ (by rintro _ ⟨⟩; rfl) (fun w' _ => by kernel_rfl), ?_⟩
    refine ⟨st_quiet (by decide) _ (by rintro _ ⟨⟩; rfl) (fun w' hw => by have hc := a2 w' hw; simp [execOp, finB, Act.eval, go_sem, hc]), ?_⟩
    refine ⟨st_quiet (by decide) _ (by rintro _ ⟨⟩; rfl) (fun w' _ => by kernel_rfl), ?_⟩
    refine ⟨st_quiet (by decide) _ (by rintro _ ⟨⟩; rfl) (fun w' hw => by have hc := b2 w' hw; simp [execOp, finB, Act.eval, go_sem, hc]), ?_⟩
    refine ⟨st_cmp (by decide) aq bq (by rintro _ ⟨⟩; rfl) (fun w' => by kernel_rfl), ?_⟩
    refine ⟨?build, ?or3, ?last, trivial⟩
    case build =>
      intro L w' hw h0 hC
      refine ⟨.slice (some ⟨W.heap.size, 0, none⟩) 3 3, by rintro _ ⟨⟩; rfl, ?_⟩
      rcases hC with ⟨_, rfl⟩ | ⟨h1, _⟩
      · simp [execOp, finB, Act.eval, go_sem, dn.left]
        exact Or.inr ⟨by simp [dn.more], rfl⟩
      · rw [h0] at h1; cases h1
    case or3 =>
      exact st_or (by decide) (by kernel_rfl) _ _ (by rintro _ ⟨⟩; rfl) (fun w' => by kernel_rfl) (cmpOr (cmpT ax bx) (cmpT ak bk) (cmpT aq bq) W.heap.size _ (at_new W.drew _ _ 0 _ rfl) (at_new W.drew _ _ 1 _ rfl) (at_new W.drew _ _ 2 _ rfl))
    case last => exact st_quiet (by decide) _ (by rintro _ ⟨⟩; rfl) (fun w' _ => by kernel_rfl)
  case fin =>
    intro L w' hL hC
    rcases hC with ⟨h1, _⟩ | ⟨_, rfl⟩
    · rw [hL 15 (by decide)] at h1; cases h1
    · unfold finB
      go_wp2
      go_ret
      exact ⟨rfl, (hb.drew).alloc (by show w.heap.size ≤ W.heap.size; omega) _⟩
end Go.Proofs.YtnooibeohdfcmaaGreatDoor.rr
