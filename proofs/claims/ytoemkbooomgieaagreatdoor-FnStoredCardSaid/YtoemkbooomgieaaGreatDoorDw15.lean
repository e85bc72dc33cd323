/- The specification's Records. -/
import Derived.Test.YtoemkbooomgieaaGreatDoorDw05
import Derived.Test.YtoemkbooomgieaaGreatDoorDw14
import Derived.Maps.Ext
import Derived.Maps.OwnSet
import Derived.Sort.KeysCollected
import Derived.Test.YtoemkbooomgieaaGreatDoorDw03
import Derived.Test.YtoemkbooomgieaaGreatDoorFlatOwn
import Derived.Test.YtoemkbooomgieaaGreatDoorDw01
import Derived.Maps.AppendAt

/- Replay: what the batches of a log leave, as an ascending list of pairs and as a map's datum. -/
namespace Go.Proofs.YtoemkbooomgieaaGreatDoor.rpp
open Go.ChangeShapes Go.WideShapes Go.ChangeAt Go.RowKit Go.Proofs.YtoemkbooomgieaaGreatDoor.fl Go.Proofs.YtoemkbooomgieaaGreatDoor.rc Go.Proofs.YtoemkbooomgieaaGreatDoor.ro Go.Proofs.YtoemkbooomgieaaGreatDoor.ptp Go.Proofs.YtoemkbooomgieaaGreatDoor.mgp
set_option linter.unusedVariables false

/-- what the pairs leave, one behind the other -/
def ev (A : List flP.Pr) : List flP.Pr := A.foldl setP []
theorem ev_app (A : List flP.Pr) (p : flP.Pr) : ev (A ++ [p]) = setP (ev A) p := by simp [ev, List.foldl_append]
theorem fold_asc : ∀ (A L : List flP.Pr), Asc L → Asc (A.foldl setP L)
  | [], L, h => h
  | a :: A, L, h => fold_asc A _ (setP_asc h a)
theorem ev_asc (A : List flP.Pr) : Asc (ev A) := fold_asc A [] List.Pairwise.nil
theorem fold_len : ∀ (A L : List flP.Pr), (A.foldl setP L).length ≤ L.length + A.length
  | [], L => by simp
  | a :: A, L => by
    have h1 := fold_len A (setP L a)
    have h2 := setP_le L a
    simp only [List.foldl_cons, List.length_cons]
    omega
theorem ev_len (A : List flP.Pr) : (ev A).length ≤ A.length := by have := fold_len A []; simpa [ev] using this
def kl (b : ByteArray) : Lit := .string b.data.toList
def pd (p : flP.Pr) : DataW Unit := .agg [.lit (.string p.k.data.toList), .lit (.string p.v.data.toList), .lit (.bool p.g)]
def en (p : flP.Pr) : Lit × DataW Unit := (kl p.k, pd p)
/-- pairs as a map's datum -/
def dm (L : List flP.Pr) : DataW Unit := .map (L.map en)
/-- how a map's element reads -/
def rdl : List Value → Option (DataW Unit × List MemPlace)
  | [.string k, .string v, .bool g] => some (pd ⟨k, v, g⟩, [])
  | _ => none
def rd : Value → Option (DataW Unit × List MemPlace)
  | .agg cs => rdl cs.toList
  | _ => none
theorem rd_mk (k v : ByteArray) (g : Bool) : rd (.agg #[.string k, .string v, .bool g]) = some (pd ⟨k, v, g⟩, []) := rfl
theorem rdl_inv {l : List Value} {z : DataW Unit × List MemPlace} (h : rdl l = some z) : ∃ k v g, l = [.string k, .string v, .bool g] ∧ z = (pd ⟨k, v, g⟩, []) := by
  unfold rdl at h
  split at h
  · exact ⟨_, _, _, rfl, (Option.some.inj h).symm⟩
  · cases h
theorem rd_inv {x : Value} {z : DataW Unit × List MemPlace} (h : rd x = some z) : ∃ k v g, x = .agg #[.string k, .string v, .bool g] ∧ z = (pd ⟨k, v, g⟩, []) := by
  cases x <;> try (cases h)
  rename_i cs
  obtain ⟨k, v, g, h1, h2⟩ := rdl_inv (l := cs.toList) h
  refine ⟨k, v, g, ?_, h2⟩
  congr 1
  exact Array.toList_inj.1 (by rw [h1])
theorem data_inj {a b : ByteArray} (h : a.data.toList = b.data.toList) : a = b := ByteArray.ext (Array.toList_inj.1 h)
theorem pd_inj {p q : flP.Pr} (h : pd p = pd q) : p = q := by
  obtain ⟨k, v, g⟩ := p
  obtain ⟨k', v', g'⟩ := q
  simp only [pd, DataW.agg.injEq, List.cons.injEq, DataW.lit.injEq, Lit.string.injEq, Lit.bool.injEq] at h
  obtain ⟨h1, h2, h3, _⟩ := h
  rw [data_inj h1, data_inj h2, h3]
theorem before_less : ∀ (a b : List UInt8), bytesBefore a b = Op.bytesLess a b
  | [], [] => rfl
  | [], _ :: _ => rfl
  | _ :: _, [] => rfl
  | x :: a, y :: b => by simp only [bytesBefore, Op.bytesLess, before_less a b]
theorem lt_data (a b : ByteArray) : lt a b = Op.bytesLess a.data.toList b.data.toList := by unfold lt; rw [Lib.toList_data, Lib.toList_data]
theorem before_lt (a b : ByteArray) : (kl a).before (kl b) = lt a b := by rw [lt_data]; exact before_less _ _
theorem same_iff (a b : ByteArray) : (kl a).sameKey (kl b) = decide (a = b) := by
  show (a.data.toList == b.data.toList) = _
  by_cases h : a = b
  · subst h; simp
  · rw [decide_eq_false h]
    simp only [beq_eq_false_iff_ne, ne_eq]
    exact fun e => h (data_inj e)
theorem ins_front (e : flP.Pr) : ∀ (l : List flP.Pr), (∀ b ∈ l, lt e.k b.k = true) → DataW.insert (en e) (l.map en) = (e :: l).map en
  | [], _ => rfl
  | b :: l, h => by
    have hb : (en e).1.before (en b).1 = true := by show (kl e.k).before (kl b.k) = true; rw [before_lt]; exact h b (List.mem_cons_self ..)
    simp only [List.map_cons, DataW.insert]
    rw [if_pos hb]
theorem keep_all (e : flP.Pr) (l : List flP.Pr) (h : ∀ b ∈ l, b.k ≠ e.k) : ((l.map en).filter fun p => !p.1.sameKey (kl e.k)) = l.map en := by
  rw [List.filter_eq_self]
  intro p hp
  obtain ⟨b, hb, rfl⟩ := List.mem_map.1 hp
  show (!(kl b.k).sameKey (kl e.k)) = true
  rw [same_iff, decide_eq_false (h b hb)]
  rfl
theorem put_list (e : flP.Pr) : ∀ (L : List flP.Pr), Asc L → DataW.insert (en e) ((L.map en).filter fun p => !p.1.sameKey (kl e.k)) = (setP L e).map en
  | [], _ => rfl
  | a :: l, h => by
    obtain ⟨h1, h2⟩ := List.pairwise_cons.1 h
    rw [setP_cons]
    by_cases c1 : lt a.k e.k = true
    · rw [if_pos c1]
      have hne : a.k ≠ e.k := fun e2 => by rw [e2, lt_irrefl] at c1; cases c1
      have hk : (!(kl a.k).sameKey (kl e.k)) = true := by rw [same_iff, decide_eq_false hne]; rfl
      have hb : ¬ (en e).1.before (en a).1 = true := by
        show ¬ (kl e.k).before (kl a.k) = true
        rw [before_lt, lt_asymm c1]
        exact Bool.false_ne_true
      have hf : ((a :: l).map en).filter (fun p => !p.1.sameKey (kl e.k)) = en a :: (l.map en).filter (fun p => !p.1.sameKey (kl e.k)) := by
        rw [List.map_cons, List.filter_cons]
        exact if_pos hk
      rw [hf]
      simp only [DataW.insert, List.map_cons]
      rw [if_neg hb, put_list e l h2]
    · rw [if_neg c1]
      have c1' : lt a.k e.k = false := by simpa using c1
      by_cases c2 : a.k = e.k
      · rw [if_pos c2]
        have hk : ¬ (!(kl a.k).sameKey (kl e.k)) = true := by rw [same_iff, decide_eq_true c2]; exact Bool.false_ne_true
        have hl : ∀ b ∈ l, lt e.k b.k = true := fun b hb => c2 ▸ h1 b hb
        have hf : ((a :: l).map en).filter (fun p => !p.1.sameKey (kl e.k)) = l.map en := by
          rw [List.map_cons, List.filter_cons]
          exact (if_neg hk).trans (keep_all e l (fun b hb e2 => by have := hl b hb; rw [e2, lt_irrefl] at this; cases this))
        rw [hf]
        exact ins_front e l hl
      · rw [if_neg c2]
        have c3 : lt e.k a.k = true := lt_tri c1' c2
        have hl : ∀ b ∈ a :: l, lt e.k b.k = true := fun b hb => by
          rcases List.mem_cons.1 hb with rfl | hb
          · exact c3
          · exact lt_trans c3 (h1 b hb)
        rw [keep_all e (a :: l) (fun b hb e2 => by have := hl b hb; rw [e2, lt_irrefl] at this; cases this)]
        exact ins_front e (a :: l) hl
theorem dm_put {L : List flP.Pr} (h : Asc L) (e : flP.Pr) : (dm L).put (kl e.k) (pd e) = dm (setP L e) := by
  show DataW.map (DataW.insert (en e) ((L.map en).filter fun p => !p.1.sameKey (kl e.k))) = _
  rw [put_list e L h]
  rfl
theorem dm_at : ∀ {L : List flP.Pr}, Asc L → ∀ {p : flP.Pr}, p ∈ L → ∀ z, (dm L).atKey (kl p.k) z = pd p
  | [], _, p, hp, z => by cases hp
  | a :: l, h, p, hp, z => by
    obtain ⟨h1, h2⟩ := List.pairwise_cons.1 h
    by_cases c : a.k = p.k
    · have e : a = p := asc_key h (List.mem_cons_self ..) hp c
      subst e
      have hs : (en a).1.sameKey (kl a.k) = true := by show (kl a.k).sameKey (kl a.k) = true; rw [same_iff]; simp
      simp only [dm, DataW.atKey, List.map_cons, List.find?_cons, hs]
      rfl
    · have hp' : p ∈ l := by
        rcases List.mem_cons.1 hp with rfl | hp
        · exact absurd rfl c
        · exact hp
      have ih := dm_at h2 hp' z
      have hs : (en a).1.sameKey (kl p.k) = false := by show (kl a.k).sameKey (kl p.k) = false; rw [same_iff, decide_eq_false c]
      simp only [dm, DataW.atKey, List.map_cons, List.find?_cons, hs] at ih ⊢
      exact ih
def bts (L : List flP.Pr) : List (List UInt8) := L.map fun p => p.k.data.toList
theorem dm_keys (L : List flP.Pr) : Go.strKeys (dm L) = bts L := by
  show (L.map en).map _ = _
  rw [List.map_map]
  rfl
theorem dm_size (L : List flP.Pr) : Maps.size (dm L) = L.length := by
  show (L.map en).length = _
  rw [List.length_map]
theorem less_lt : ∀ (a b : List UInt8), Op.bytesLess a b = true → a < b
  | _, [], h => by simp [Op.bytesLess] at h
  | [], y :: b, _ => by simp
  | x :: a, y :: b, h => by
    simp only [Op.bytesLess, Bool.or_eq_true, decide_eq_true_eq, Bool.and_eq_true, beq_iff_eq] at h
    rw [List.cons_lt_cons_iff]
    rcases h with h | ⟨h1, h2⟩
    · exact .inl h
    · exact .inr ⟨h1, less_lt a b h2⟩
theorem bts_sorted {L : List flP.Pr} (h : Asc L) : (bts L).Pairwise fun a b => a ≤ b := by
  unfold bts
  rw [List.pairwise_map]
  refine h.imp fun {a b} hab => ?_
  rw [lt_data] at hab
  exact List.le_of_lt (less_lt _ _ hab)
theorem sorted_keys {L : List flP.Pr} (h : Asc L) {ss : List (List UInt8)} (hp : ss.Perm (bts L)) : ss.mergeSort (fun x y => decide (x ≤ y)) = bts L := by
  refine List.Perm.eq_of_pairwise (le := fun a b : List UInt8 => a ≤ b) (fun a b _ _ h1 h2 => List.le_antisymm h1 h2) ?_ (bts_sorted h) ((List.mergeSort_perm _ _).trans hp)
  have := List.pairwise_mergeSort (le := fun x y : List UInt8 => decide (x ≤ y)) (fun a b c h1 h2 => by simp only [decide_eq_true_eq] at *; exact List.le_trans h1 h2) (fun a b => by simp only [Bool.or_eq_true, decide_eq_true_eq]; exact List.le_total a b) ss
  exact this.imp fun h => by simpa using h
/-- what is left of a log -/
noncomputable def rep (s : ByteArray) : List flP.Pr := (ev (rcp.recs s).1.flatten).filter (fun e => !e.g)
end Go.Proofs.YtoemkbooomgieaaGreatDoor.rpp

/- The laws' marks in a row of pairs of its own that may be nothing: laid, and held; a row of its own, and where it lies. -/
namespace Go.Proofs.YtoemkbooomgieaaGreatDoor.pmk
open Go.ChangeShapes Go.WideShapes Go.ChangeAt Go.RowKit Go.Proofs.YtoemkbooomgieaaGreatDoor.fl Go.Proofs.YtoemkbooomgieaaGreatDoor.fo
set_option linter.unusedVariables false

/-- a row of its own, and where it lies -/
theorem mine_of {α : Type} {c : α → List Value} {n B : Nat} {U : TypeId} {l : List α} {w : World} {v : Value} (hn : ∀ e, (c e).length = n) (ho : w.ownsRow B U n v l.length (l.flatMap c)) : ∃ a cap, v = .slice a l.length cap ∧ Mine c n U w B a l := by
  obtain ⟨_, ⟨h1, h0⟩ | ⟨g, cap, cur, h1, h2, h3, h4, h5, h6, h7⟩⟩ := ho
  · have e : l = [] := List.eq_nil_of_length_eq_zero h0
    subst e
    exact ⟨none, 0, h1, .inl rfl⟩
  · refine ⟨_, cap, h1, .inr ⟨g, 0, rfl, h2, cur, h3, by rw [h6, Nat.zero_add]; exact Nat.mul_le_mul_right n h4, fun i e hi he j v hv => ?_⟩⟩
    have hf := fl.flat_at hn l i e he j v hv
    rw [← h7] at hf
    have hlt := (List.getElem?_eq_some_iff.1 hf).1
    rw [List.length_take] at hlt
    rw [List.getElem?_take_of_lt (by omega)] at hf
    rw [Nat.zero_add]
    simpa using hf
end Go.Proofs.YtoemkbooomgieaaGreatDoor.pmk

/- The specification's GetBatch. -/
namespace Go.Proofs.YtoemkbooomgieaaGreatDoor.gbs
open Go.ChangeShapes Go.WideShapes Go.ChangeAt Go.RowKit Go.Proofs.YtoemkbooomgieaaGreatDoor.fl Go.Proofs.YtoemkbooomgieaaGreatDoor.gbp
set_option linter.unusedVariables false

theorem got_bad1 {s : ByteArray} (h : (gi.okAt s 0 1 && decide (gi.num s 0 1 ≤ 60)) = false) : got s = none := by
  unfold got
  rw [h]
  rfl
theorem got_bad2 {s : ByteArray} (h : rn s (gi.num s 0 1).toNat 1 = none) : got s = none := by
  unfold got
  rw [h]
  split <;> rfl
theorem got_bad3 {s : ByteArray} {l : List flP.Pr} {e : Int} (h : rn s (gi.num s 0 1).toNat 1 = some (l, e)) (h2 : (decide (e = s.size) && bo.okb l) = false) : got s = none := by
  unfold got
  rw [h]
  simp only [h2]
  split <;> rfl
theorem got_good {s : ByteArray} {l : List flP.Pr} {e : Int} (h0 : (gi.okAt s 0 1 && decide (gi.num s 0 1 ≤ 60)) = true) (h : rn s (gi.num s 0 1).toNat 1 = some (l, e)) (h2 : (decide (e = s.size) && bo.okb l) = true) : got s = some l := by
  unfold got
  rw [if_pos h0, h]
  simp only [h2, if_true]
theorem stp_bad {s : ByteArray} {i : Int} (h : (gi.okAt s i 1 && (gs.here s (i + 1) && decide (gi.num s i 1 ≤ 1))) = false) : stp s i = none := by
  unfold stp
  rw [h]
  rfl
theorem stp_gone {s : ByteArray} {i : Int} (h : (gi.okAt s i 1 && (gs.here s (i + 1) && decide (gi.num s i 1 ≤ 1))) = true) (h1 : gi.num s i 1 = 1) : stp s i = some (⟨gs.text s (i + 1), ⟨#[]⟩, true⟩, gs.behind s (i + 1)) := by
  unfold stp
  rw [if_pos h, if_pos h1]
theorem stp_val {s : ByteArray} {i : Int} (h : (gi.okAt s i 1 && (gs.here s (i + 1) && decide (gi.num s i 1 ≤ 1))) = true) (h1 : gi.num s i 1 ≠ 1) (h2 : gl.here s (gs.behind s (i + 1)) = true) : stp s i = some (⟨gs.text s (i + 1), gl.text s (gs.behind s (i + 1)), false⟩, gl.behind s (gs.behind s (i + 1))) := by
  unfold stp
  rw [if_pos h, if_neg h1, if_pos h2]
theorem stp_noval {s : ByteArray} {i : Int} (h : (gi.okAt s i 1 && (gs.here s (i + 1) && decide (gi.num s i 1 ≤ 1))) = true) (h1 : gi.num s i 1 ≠ 1) (h2 : gl.here s (gs.behind s (i + 1)) = false) : stp s i = none := by
  unfold stp
  rw [if_pos h, if_neg h1, h2]
  rfl
theorem cpadd {g j : Nat} : (⟨g, 0, none⟩ : Addr).add j = ⟨g, j, none⟩ := by unfold Addr.add; split <;> simp_all
theorem own_on {w w' : World} {B n m : Nat} {T : TypeId} {v : Value} {xs : List Value} (h : w.ownsRow B T m v n xs) (hb : Below w.heap.size w w') : w'.ownsRow B T m v n xs :=
  h.kept (row := none) ⟨hb.os, hb.tape, hb.output, hb.size, fun k hk _ => hb.block k hk⟩ (by cases v.ownBlock <;> simp)
theorem infoP : ∃ i0, Tryz.prog.info? 61 = some i0 ∧ i0.zero = some (.agg #[.string ByteArray.empty, .string ByteArray.empty, .bool false]) ∧ i0.size = 3 ∧ i0.bytes = 40 := by
  have h : (Tryz.prog.info? 61).map (fun i => (i.zero, i.size, i.bytes)) = some (some (.agg #[.string ByteArray.empty, .string ByteArray.empty, .bool false]), 3, 40) := by kernel_rfl
  cases hh : Tryz.prog.info? 61 with
  | none => rw [hh] at h; cases h
  | some i => rw [hh] at h; simp at h; exact ⟨i, rfl, h.1, h.2.1, h.2.2⟩
end Go.Proofs.YtoemkbooomgieaaGreatDoor.gbs

/- Batches that were read one behind the other, as they lie: a row of slices of its own, each batch in a row of its own. -/
namespace Go.Proofs.YtoemkbooomgieaaGreatDoor.rcm
open Go.ChangeShapes Go.WideShapes Go.ChangeAt Go.RowKit Go.Proofs.YtoemkbooomgieaaGreatDoor.fl Go.Proofs.YtoemkbooomgieaaGreatDoor.fo Go.Proofs.YtoemkbooomgieaaGreatDoor.rn Go.Proofs.YtoemkbooomgieaaGreatDoor.mrR
set_option linter.unusedVariables false

structure RO (w W : World) (v : Value) (rs : List Rn) : Prop where
  bel : Below w.heap.size w W
  row : W.ownsRow w.heap.size 28 1 v rs.length (rs.flatMap cR)
  runs : ∀ r ∈ rs, MP W w.heap.size r.a r.l
  apart : Apart rs
section
variable {w W X Y : World} {v v' : Value} {rs : List Rn} {a : Option Addr} {c : Nat} {l : List flP.Pr}
theorem RO.on (h : RO w W v rs) (hb : Below W.heap.size W X) : RO w X v rs := ⟨h.bel.trans (hb.mono h.bel.size), gbs.own_on h.row hb, fun r hr => Mine.below (h.runs r hr) hb, h.apart⟩
theorem ty_ne {B g k : Nat} {cur : Array Value} (hm : MP W B a l) (hk : blk a l k) (hg : W.heap[g]? = some (.cells cur 28 (0, 0))) : k ≠ g := by
  rintro rfl
  rcases hm with rfl | ⟨g', off, rfl, hB, ho⟩
  · exact hk.1 rfl
  · obtain ⟨_, g2, off2, e, rfl⟩ := hk
    obtain ⟨cur', h1, _⟩ := ho.cells
    have e2 := Addr.mk.inj (Option.some.inj e)
    rw [e2.1, hg] at h1
    simp at h1
theorem RO.ne (h : RO w W v rs) {r : Rn} (hr : r ∈ rs) {k : Nat} (hk : blk r.a r.l k) : ¬ v.ownBlock = some k := by
  intro e
  obtain ⟨_, ⟨h1, _⟩ | ⟨g, cap, cur, h1, _, h3, _⟩⟩ := h.row
  · rw [h1] at e; cases e
  · rw [h1] at e
    have e2 : g = k := by simpa [Value.ownBlock] using e
    exact ty_ne (h.runs r hr) hk h3 e2.symm
theorem RO.more (h : RO w W v rs) (hb : Below W.heap.size W X) (hm : MP X W.heap.size a l) (hgr : X.grownBy Y v.ownBlock) (ho : Y.ownsRow w.heap.size 28 1 v' (rs.length + 1) (rs.flatMap cR ++ [.slice a l.length c])) : RO w Y v' (rs ++ [⟨a, c, l⟩]) := by
  have hX := h.on hb
  have hlt : ∀ k, v.ownBlock = some k → w.heap.size ≤ k ∧ k < W.heap.size := fun k hk => h.row.lt k hk
  have ht : Tn X Y (fun k => v.ownBlock = some k) := ⟨hgr.os, hgr.tape, hgr.output, hgr.size, fun k hk hne => hgr.block k hk (fun e => hne e.symm)⟩
  have hnew : ∀ k, blk a l k → W.heap.size ≤ k := fun k hk => (Mine.blk_le hm hk).1
  have hmY : MP Y W.heap.size a l := Mine.kept hm ht (fun k hk e => by have := hnew k hk; have := (hlt k e).2; omega)
  refine ⟨hX.bel.grown hgr hX.bel.size (fun k hk => (hlt k hk).1), ?_, fun r hr => ?_, ?_⟩
  · rw [List.length_append, List.length_singleton, List.flatMap_append]
    simpa [cR] using ho
  · rcases List.mem_append.1 hr with hr | hr
    · exact Mine.kept (hX.runs r hr) ht (fun k hk => hX.ne hr hk)
    · rw [List.mem_singleton.1 hr]
      rcases hmY with e | ⟨g, off, e, hB, hO⟩
      · exact .inl e
      · exact .inr ⟨g, off, e, Nat.le_trans h.bel.size hB, hO⟩
  · intro i j r s hi hj hij k hr hs
    have hil := (List.getElem?_eq_some_iff.1 hi).1
    have hjl := (List.getElem?_eq_some_iff.1 hj).1
    rw [List.length_append, List.length_singleton] at hil hjl
    by_cases e1 : i < rs.length
    · rw [List.getElem?_append_left e1] at hi
      by_cases e2 : j < rs.length
      · rw [List.getElem?_append_left e2] at hj
        exact h.apart i j r s hi hj hij k hr hs
      · obtain rfl : j = rs.length := by omega
        rw [List.getElem?_append_right (Nat.le_refl _)] at hj
        simp at hj
        subst hj
        have := (Mine.blk_le (h.runs r (List.mem_of_getElem? hi)) hr).2
        have := hnew k hs
        omega
    · obtain rfl : i = rs.length := by omega
      rw [List.getElem?_append_right (Nat.le_refl _)] at hi
      simp at hi
      subst hi
      have e2 : j < rs.length := by omega
      rw [List.getElem?_append_left e2] at hj
      have := (Mine.blk_le (h.runs s (List.mem_of_getElem? hj)) hs).2
      have := hnew k hr
      omega
theorem RO.vr (h : RO w W v rs) : ∃ a cap, v = .slice a rs.length cap ∧ VR W W.heap.size a rs ∧ ∀ g off, a = some ⟨g, off, none⟩ → ¬ bks rs g := by
  obtain ⟨a, cap, rfl, hr0⟩ := own_row cR_len h.row
  refine ⟨a, cap, rfl, ⟨hr0, fun r hr => Mine.row (h.runs r hr)⟩, fun g off e hb => ?_⟩
  obtain ⟨r, hr, hk⟩ := hb
  subst e
  obtain ⟨_, ⟨h1, _⟩ | ⟨g', cap', cur, h1, _, h3, _⟩⟩ := h.row
  · cases h1
  · have e2 := Value.slice.inj h1
    have e3 := Addr.mk.inj (Option.some.inj e2.1)
    rw [← e3.1] at h3
    exact ty_ne (h.runs r hr) hk h3 rfl
end
theorem info0 : (Tryz.prog.info? 28).map (fun i => (i.zero, i.size, i.bytes)) = some (some (.slice none 0 0), 1, 24) := by kernel_rfl
theorem infoR : ∃ i0, Tryz.prog.info? 28 = some i0 ∧ i0.zero = some (.slice none 0 0) ∧ i0.size = 1 ∧ i0.bytes = 24 := by
  have h := info0
  cases hh : Tryz.prog.info? 28 with
  | none => rw [hh] at h; cases h
  | some i => rw [hh] at h; simp at h; exact ⟨i, rfl, h.1, h.2.1, h.2.2⟩
/-- one batch more behind the others -/
theorem app_one {w W X : World} {v : Value} {rs : List Rn} {a : Option Addr} {c : Nat} {l : List flP.Pr} (h : RO w W v rs) (hb : Below W.heap.size W X) (hm : MP X W.heap.size a l) (hl : rs.length ≤ 100000) :
    ∃ v' Y, (Builtin.append_ #[24, 24] 24 #[v, .slice (some ⟨X.heap.size, 0, none⟩) 1 1]).run Tryz.prog (X.alloc (.cells #[.slice a l.length c] 28)) = .ok v' Y ∧ RO w Y v' (rs ++ [⟨a, c, l⟩]) := by
  obtain ⟨i0, hi, hz0, hz1, hz2⟩ := infoR
  have hal : Below X.heap.size X (X.alloc (.cells #[.slice a l.length c] 28)) := (Below.refl _ _).alloc (Nat.le_refl _) _
  have hb2 : Below W.heap.size W (X.alloc (.cells #[.slice a l.length c] 28)) := hb.trans (hal.mono hb.size)
  have hX := h.on hb2
  obtain ⟨v', Y, hr, ho, hgr, _, _⟩ := run_append_own_at (P := Tryz.prog) (X.alloc (.cells #[.slice a l.length c] 28)) w.heap.size 24 24 28 i0 (.slice none 0 0) 1 24 Tryz.underlying24 hi hz0 hz1 hz2 rfl (by decide) v rs.length (rs.flatMap cR) hX.row ⟨X.heap.size, 0, none⟩ 1 1 [.slice a l.length c] rfl (fun j u hu => by rw [gbs.cpadd]; exact bcell (bnew X _ _) (by simpa using hu)) (by intro u hu; simp at hu; subst hu; rfl) (by unfold maxLen; omega) (by omega) hX.bel.size
  exact ⟨v', Y, hr, h.more hb2 (Mine.below hm hal) hgr ho⟩
end Go.Proofs.YtoemkbooomgieaaGreatDoor.rcm

/- The specification's Records. -/
namespace Go.Proofs.YtoemkbooomgieaaGreatDoor.rcS
open Go.ChangeShapes Go.WideShapes Go.ChangeAt Go.RowKit Go.Proofs.YtoemkbooomgieaaGreatDoor.fl Go.Proofs.YtoemkbooomgieaaGreatDoor.fo Go.Proofs.YtoemkbooomgieaaGreatDoor.rn Go.Proofs.YtoemkbooomgieaaGreatDoor.mrR Go.Proofs.YtoemkbooomgieaaGreatDoor.gbp Go.Proofs.YtoemkbooomgieaaGreatDoor.rcp Go.Proofs.YtoemkbooomgieaaGreatDoor.rcm
set_option linter.unusedVariables false

/-- what stands when some records are read -/
structure St (s : ByteArray) (w : World) (i : Int) (rs : List Rn) (v : Value) (W : World) : Prop where
  ro : RO w W v rs
  left : rcp.Left s (rs.map (·.l)) i
theorem St.lo {s : ByteArray} {w : World} {i : Int} {rs : List Rn} {v : Value} {W : World} (h : St s w i rs v W) : 0 ≤ i ∧ i ≤ s.size := ⟨by have := h.left.far; omega, h.left.hi⟩
theorem St.len {s : ByteArray} {w : World} {i : Int} {rs : List Rn} {v : Value} {W : World} (h : St s w i rs v W) (hs : s.size ≤ 200000) : rs.length ≤ 25000 := by
  have := left_len hs h.left
  rwa [List.length_map] at this
theorem St.fin {s : ByteArray} {w : World} {i : Int} {rs : List Rn} {v : Value} {W X : World} (h : St s w i rs v W) (hs : s.size ≤ 200000) (hr : isR s i = false) (hb : Below W.heap.size W X) : ∃ v', Ending.returned (.tuple #[v, .int .i64 i]) = .returned (.tuple #[v', .int .i64 (recs s).2]) ∧ ∃ rs' : List Rn, rs'.map (·.l) = (recs s).1 ∧ RO w X v' rs' := by
  rw [left_end hs h.left hr]
  exact ⟨v, rfl, rs, rfl, h.ro.on hb⟩
theorem St.next {s : ByteArray} {w : World} {i : Int} {rs : List Rn} {v v' : Value} {W Y : World} {a : Option Addr} {c : Nat} (h : St s w i rs v W) (hr : isR s i = true) (ho : RO w Y v' (rs ++ [⟨a, c, bat s i⟩])) : St s w (nxt s i) (rs ++ [⟨a, c, bat s i⟩]) v' Y := by
  refine ⟨ho, ?_⟩
  rw [List.map_append]
  exact left_yes h.left hr
theorem no_1 {s : ByteArray} {i : Int} (h : gi.okAt s i 4 = false) : isR s i = false := by unfold isR; rw [h]; rfl
theorem no_2 {s : ByteArray} {i : Int} (h : gl.here s (i + 4) = false) : isR s i = false := by unfold isR; rw [h]; simp
theorem no_3 {s : ByteArray} {i : Int} (h : gotB (gl.text s (i + 4)) = false) : isR s i = false := by unfold isR; rw [h]; simp
theorem no_4 {s : ByteArray} {i : Int} (h : gi.num s i 4 ≠ (cs.sum (gl.text s (i + 4)) : Int)) : isR s i = false := by unfold isR; simp [h]
theorem yes {s : ByteArray} {i : Int} (h1 : gi.okAt s i 4 = true) (h2 : gl.here s (i + 4) = true) (h3 : gotB (gl.text s (i + 4)) = true) (h4 : gi.num s i 4 = (cs.sum (gl.text s (i + 4)) : Int)) : isR s i = true := by unfold isR; simp [h1, h2, h3, h4]
theorem sum_lt (s : ByteArray) : cs.sum s ≤ 4294967295 := by
  unfold cs.sum
  have := Nat.xor_lt_two_pow (n := 32) (cs.st_lt s s.size) (show 4294967295 < 2 ^ 32 by decide)
  omega

end Go.Proofs.YtoemkbooomgieaaGreatDoor.rcS
