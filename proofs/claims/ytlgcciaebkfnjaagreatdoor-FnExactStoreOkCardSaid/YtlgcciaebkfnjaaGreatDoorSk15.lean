/- The specification's GetBatch. -/
import Derived.Test.YtlgcciaebkfnjaaGreatDoorAscPure
import Derived.Test.YtlgcciaebkfnjaaGreatDoorSk14
import Derived.Maps.Ext
import Derived.Maps.OwnSet
import Derived.Sort.KeysCollected
import Derived.Test.YtlgcciaebkfnjaaGreatDoorMrPair
import Derived.Test.YtlgcciaebkfnjaaGreatDoorSk01
import Derived.Test.YtlgcciaebkfnjaaGreatDoorSk06
import Derived.Maps.AppendAt

/- Replay: what the batches of a log leave, as an ascending list of pairs and as a map's datum. -/
namespace Go.Proofs.YtlgcciaebkfnjaaGreatDoor.rpp
open Go.ChangeShapes Go.WideShapes Go.ChangeAt Go.RowKit Go.Proofs.YtlgcciaebkfnjaaGreatDoor.fl Go.Proofs.YtlgcciaebkfnjaaGreatDoor.rc Go.Proofs.YtlgcciaebkfnjaaGreatDoor.ro Go.Proofs.YtlgcciaebkfnjaaGreatDoor.ptp Go.Proofs.YtlgcciaebkfnjaaGreatDoor.mgp
set_option linter.unusedVariables false

/-- what the pairs leave, one behind the other -/
def ev (A : List flP.Pr) : List flP.Pr := A.foldl setP []
theorem ev_app (A : List flP.Pr) (p : flP.Pr) : ev (A ++ [p]) = setP (ev A) p := by simp [ev, List.foldl_append]
theorem fold_asc : ∀ (A L : List flP.Pr), Asc L → Asc (A.foldl setP L)
  | [], L, h => h
  | a :: A, L, h => fold_asc A _ (setP_asc h a)
theorem ev_asc (A : List flP.Pr) : Asc (ev A) := fold_asc A [] List.Pairwise.nil
theorem fold_len : ∀ (A L : List flP.Pr), (A.foldl setP L).length ≤ L.length + A.length
  | [], L => by simp
  | a :: A, L => by
    have h1 := fold_len A (setP L a)
    have h2 := setP_le L a
    simp only [List.foldl_cons, List.length_cons]
    omega
theorem ev_len (A : List flP.Pr) : (ev A).length ≤ A.length := by have := fold_len A []; simpa [ev] using this
def kl (b : ByteArray) : Lit := .string b.data.toList
def pd (p : flP.Pr) : DataW Unit := .agg [.lit (.string p.k.data.toList), .lit (.string p.v.data.toList), .lit (.bool p.g)]
def en (p : flP.Pr) : Lit × DataW Unit := (kl p.k, pd p)
/-- pairs as a map's datum -/
def dm (L : List flP.Pr) : DataW Unit := .map (L.map en)
/-- how a map's element reads -/
def rdl : List Value → Option (DataW Unit × List MemPlace)
  | [.string k, .string v, .bool g] => some (pd ⟨k, v, g⟩, [])
  | _ => none
def rd : Value → Option (DataW Unit × List MemPlace)
  | .agg cs => rdl cs.toList
  | _ => none
theorem rd_mk (k v : ByteArray) (g : Bool) : rd (.agg #[.string k, .string v, .bool g]) = some (pd ⟨k, v, g⟩, []) := rfl
theorem rdl_inv {l : List Value} {z : DataW Unit × List MemPlace} (h : rdl l = some z) : ∃ k v g, l = [.string k, .string v, .bool g] ∧ z = (pd ⟨k, v, g⟩, []) := by
  unfold rdl at h
  split at h
  · exact ⟨_, _, _, rfl, (Option.some.inj h).symm⟩
  · cases h
theorem rd_inv {x : Value} {z : DataW Unit × List MemPlace} (h : rd x = some z) : ∃ k v g, x = .agg #[.string k, .string v, .bool g] ∧ z = (pd ⟨k, v, g⟩, []) := by
  cases x <;> try (cases h)
  rename_i cs
  obtain ⟨k, v, g, h1, h2⟩ := rdl_inv (l := cs.toList) h
  refine ⟨k, v, g, ?_, h2⟩
  congr 1
  exact Array.toList_inj.1 (by rw [h1])
theorem data_inj {a b : ByteArray} (h : a.data.toList = b.data.toList) : a = b := ByteArray.ext (Array.toList_inj.1 h)
theorem pd_inj {p q : flP.Pr} (h : pd p = pd q) : p = q := by
  obtain ⟨k, v, g⟩ := p
  obtain ⟨k', v', g'⟩ := q
  simp only [pd, DataW.agg.injEq, List.cons.injEq, DataW.lit.injEq, Lit.string.injEq, Lit.bool.injEq] at h
  obtain ⟨h1, h2, h3, _⟩ := h
  rw [data_inj h1, data_inj h2, h3]
theorem before_less : ∀ (a b : List UInt8), bytesBefore a b = Op.bytesLess a b
  | [], [] => rfl
  | [], _ :: _ => rfl
  | _ :: _, [] => rfl
  | x :: a, y :: b => by simp only [bytesBefore, Op.bytesLess, before_less a b]
theorem lt_data (a b : ByteArray) : lt a b = Op.bytesLess a.data.toList b.data.toList := by unfold lt; rw [Lib.toList_data, Lib.toList_data]
theorem before_lt (a b : ByteArray) : (kl a).before (kl b) = lt a b := by rw [lt_data]; exact before_less _ _
theorem same_iff (a b : ByteArray) : (kl a).sameKey (kl b) = decide (a = b) := by
  show (a.data.toList == b.data.toList) = _
  by_cases h : a = b
  · subst h; simp
  · rw [decide_eq_false h]
    simp only [beq_eq_false_iff_ne, ne_eq]
    exact fun e => h (data_inj e)
theorem ins_front (e : flP.Pr) : ∀ (l : List flP.Pr), (∀ b ∈ l, lt e.k b.k = true) → DataW.insert (en e) (l.map en) = (e :: l).map en
  | [], _ => rfl
  | b :: l, h => by
    have hb : (en e).1.before (en b).1 = true := by show (kl e.k).before (kl b.k) = true; rw [before_lt]; exact h b (List.mem_cons_self ..)
    simp only [List.map_cons, DataW.insert]
    rw [if_pos hb]
theorem keep_all (e : flP.Pr) (l : List flP.Pr) (h : ∀ b ∈ l, b.k ≠ e.k) : ((l.map en).filter fun p => !p.1.sameKey (kl e.k)) = l.map en := by
  rw [List.filter_eq_self]
  intro p hp
  obtain ⟨b, hb, rfl⟩ := List.mem_map.1 hp
  show (!(kl b.k).sameKey (kl e.k)) = true
  rw [same_iff, decide_eq_false (h b hb)]
  rfl
theorem put_list (e : flP.Pr) : ∀ (L : List flP.Pr), Asc L → DataW.insert (en e) ((L.map en).filter fun p => !p.1.sameKey (kl e.k)) = (setP L e).map en
  | [], _ => rfl
  | a :: l, h => by
    obtain ⟨h1, h2⟩ := List.pairwise_cons.1 h
    rw [setP_cons]
    by_cases c1 : lt a.k e.k = true
    · rw [if_pos c1]
      have hne : a.k ≠ e.k := fun e2 => by rw [e2, lt_irrefl] at c1; cases c1
      have hk : (!(kl a.k).sameKey (kl e.k)) = true := by rw [same_iff, decide_eq_false hne]; rfl
      have hb : ¬ (en e).1.before (en a).1 = true := by
        show ¬ (kl e.k).before (kl a.k) = true
        rw [before_lt, lt_asymm c1]
        exact Bool.false_ne_true
      have hf : ((a :: l).map en).filter (fun p => !p.1.sameKey (kl e.k)) = en a :: (l.map en).filter (fun p => !p.1.sameKey (kl e.k)) := by
        rw [List.map_cons, List.filter_cons]
        exact if_pos hk
      rw [hf]
      simp only [DataW.insert, List.map_cons]
      rw [if_neg hb, put_list e l h2]
    · rw [if_neg c1]
      have c1' : lt a.k e.k = false := by simpa using c1
      by_cases c2 : a.k = e.k
      · rw [if_pos c2]
        have hk : ¬ (!(kl a.k).sameKey (kl e.k)) = true := by rw [same_iff, decide_eq_true c2]; exact Bool.false_ne_true
        have hl : ∀ b ∈ l, lt e.k b.k = true := fun b hb => c2 ▸ h1 b hb
        have hf : ((a :: l).map en).filter (fun p => !p.1.sameKey (kl e.k)) = l.map en := by
          rw [List.map_cons, List.filter_cons]
          exact (if_neg hk).trans (keep_all e l (fun b hb e2 => by have := hl b hb; rw [e2, lt_irrefl] at this; cases this))
        rw [hf]
        exact ins_front e l hl
      · rw [if_neg c2]
        have c3 : lt e.k a.k = true := lt_tri c1' c2
        have hl : ∀ b ∈ a :: l, lt e.k b.k = true := fun b hb => by
          rcases List.mem_cons.1 hb with rfl | hb
          · exact c3
          · exact lt_trans c3 (h1 b hb)
        rw [keep_all e (a :: l) (fun b hb e2 => by have := hl b hb; rw [e2, lt_irrefl] at this; cases this)]
        exact ins_front e (a :: l) hl
theorem dm_put {L : List flP.Pr} (h : Asc L) (e : flP.Pr) : (dm L).put (kl e.k) (pd e) = dm (setP L e) := by
  show DataW.map (DataW.insert (en e) ((L.map en).filter fun p => !p.1.sameKey (kl e.k))) = _
  rw [put_list e L h]
  rfl
theorem dm_at : ∀ {L : List flP.Pr}, Asc L → ∀ {p : flP.Pr}, p ∈ L → ∀ z, (dm L).atKey (kl p.k) z = pd p
  | [], _, p, hp, z => by cases hp
  | a :: l, h, p, hp, z => by
    obtain ⟨h1, h2⟩ := List.pairwise_cons.1 h
    by_cases c : a.k = p.k
    · have e : a = p := asc_key h (List.mem_cons_self ..) hp c
      subst e
      have hs : (en a).1.sameKey (kl a.k) = true := by show (kl a.k).sameKey (kl a.k) = true; rw [same_iff]; simp
      simp only [dm, DataW.atKey, List.map_cons, List.find?_cons, hs]
      rfl
    · have hp' : p ∈ l := by
        rcases List.mem_cons.1 hp with rfl | hp
        · exact absurd rfl c
        · exact hp
      have ih := dm_at h2 hp' z
      have hs : (en a).1.sameKey (kl p.k) = false := by show (kl a.k).sameKey (kl p.k) = false; rw [same_iff, decide_eq_false c]
      simp only [dm, DataW.atKey, List.map_cons, List.find?_cons, hs] at ih ⊢
      exact ih
def bts (L : List flP.Pr) : List (List UInt8) := L.map fun p => p.k.data.toList
theorem dm_keys (L : List flP.Pr) : Go.strKeys (dm L) = bts L := by
  show (L.map en).map _ = _
  rw [List.map_map]
  rfl
theorem dm_size (L : List flP.Pr) : Maps.size (dm L) = L.length := by
  show (L.map en).length = _
  rw [List.length_map]
theorem less_lt : ∀ (a b : List UInt8), Op.bytesLess a b = true → a < b
  | _, [], h => by simp [Op.bytesLess] at h
  | [], y :: b, _ => by simp
  | x :: a, y :: b, h => by
    simp only [Op.bytesLess, Bool.or_eq_true, decide_eq_true_eq, Bool.and_eq_true, beq_iff_eq] at h
    rw [List.cons_lt_cons_iff]
    rcases h with h | ⟨h1, h2⟩
    · exact .inl h
    · exact .inr ⟨h1, less_lt a b h2⟩
theorem bts_sorted {L : List flP.Pr} (h : Asc L) : (bts L).Pairwise fun a b => a ≤ b := by
  unfold bts
  rw [List.pairwise_map]
  refine h.imp fun {a b} hab => ?_
  rw [lt_data] at hab
  exact List.le_of_lt (less_lt _ _ hab)
theorem sorted_keys {L : List flP.Pr} (h : Asc L) {ss : List (List UInt8)} (hp : ss.Perm (bts L)) : ss.mergeSort (fun x y => decide (x ≤ y)) = bts L := by
  refine List.Perm.eq_of_pairwise (le := fun a b : List UInt8 => a ≤ b) (fun a b _ _ h1 h2 => List.le_antisymm h1 h2) ?_ (bts_sorted h) ((List.mergeSort_perm _ _).trans hp)
  have := List.pairwise_mergeSort (le := fun x y : List UInt8 => decide (x ≤ y)) (fun a b c h1 h2 => by simp only [decide_eq_true_eq] at *; exact List.le_trans h1 h2) (fun a b => by simp only [Bool.or_eq_true, decide_eq_true_eq]; exact List.le_total a b) ss
  exact this.imp fun h => by simpa using h
/-- what is left of a log -/
noncomputable def rep (s : ByteArray) : List flP.Pr := (ev (rcp.recs s).1.flatten).filter (fun e => !e.g)
end Go.Proofs.YtlgcciaebkfnjaaGreatDoor.rpp

/- The laws' marks in a row of pairs of its own that may be nothing: laid, and held; a row of its own, and where it lies. -/
namespace Go.Proofs.YtlgcciaebkfnjaaGreatDoor.pmk
open Go.ChangeShapes Go.WideShapes Go.ChangeAt Go.RowKit Go.Proofs.YtlgcciaebkfnjaaGreatDoor.fl Go.Proofs.YtlgcciaebkfnjaaGreatDoor.fo
set_option linter.unusedVariables false

theorem mark_none (a : Option Addr) (cap k0 : Nat) (w : World) (hk : k0 ≤ 1000000000000) : Calls Tryz.prog 108 #[.slice a 0 cap, .int .i64 k0] w fun e w' => e = .returned (.int .i64 k0) ∧ w' = w := by
  go_enter Tryz.func108, Tryz.ntmps108
  go_wp2
  refine wp_loop_rounds 1 ?_
  rw [rounds_succ]
  go_wp2
  go_ret
  exact ⟨rfl, rfl⟩
theorem held_none (a : Option Addr) (cap k0 : Nat) (w : World) (hk : k0 ≤ 1000000000000) : Calls Tryz.prog 110 #[.slice a 0 cap, .int .i64 k0] w fun e w' => e = .returned (.int .i64 k0) ∧ w' = w := by
  go_enter Tryz.func110, Tryz.ntmps110
  go_wp2
  refine wp_loop_rounds 1 ?_
  rw [rounds_succ]
  go_wp2
  go_ret
  exact ⟨rfl, rfl⟩
theorem mark_mine (l : List flP.Pr) (a : Option Addr) (cap B : Nat) (w : World) (hl : l.length ≤ 1048577) (hM : Mine flP.c 3 49 w B a l) :
    Calls Tryz.prog 108 #[.slice a l.length cap, .int .i64 1] w fun e w' => e = .returned (.int .i64 (1 + 3 * l.length : Nat)) ∧ Mine flP.c 3 49 w' B a (mrP.mks 1 l.length) ∧ Tn w w' (blk a l) := by
  rcases hM with rfl | ⟨g, off, rfl, hB, ho⟩
  · exact (mark_none a cap 1 w (by omega)).mono fun e w' ⟨h1, h2⟩ => ⟨h1, .inl rfl, h2 ▸ Tn.refl _ _⟩
  · by_cases e : l = []
    · subst e
      exact (mark_none _ cap 1 w (by omega)).mono fun e w' ⟨h1, h2⟩ => ⟨h1, .inl rfl, h2 ▸ Tn.refl _ _⟩
    · exact (mrP.mark_all l.length g off cap 1 w (by omega) (by omega) (ho.any (mrP.mks_len _ _))).mono fun e' w' ⟨h1, h2, h3⟩ => ⟨h1, .inr ⟨g, off, rfl, hB, by rw [mrP.mks_len]; exact h3⟩, h2.wide (fun k hk => ⟨e, g, off, rfl, hk⟩)⟩
theorem held_mine (n : Nat) (a : Option Addr) (cap B : Nat) (w : World) (hl : n ≤ 1048577) (hM : Mine flP.c 3 49 w B a (mrP.mks 1 n)) :
    Calls Tryz.prog 110 #[.slice a n cap, .int .i64 1] w fun e w' => e = .returned (.int .i64 (1 + 3 * n : Nat)) ∧ Below w.heap.size w w' := by
  rcases hM with h0 | ⟨g, off, rfl, hB, ho⟩
  · have hn : n = 0 := by have := congrArg List.length h0; rw [mrP.mks_len] at this; exact this
    subst hn
    exact (held_none a cap 1 w (by omega)).mono fun e w' ⟨h1, h2⟩ => ⟨h1, h2 ▸ Below.refl _ _⟩
  · rw [mrP.mks_len] at ho
    exact mrP.held_all n g off cap 1 w (by omega) (by omega) ho
theorem blk_mks {a : Option Addr} {l : List flP.Pr} {k : Nat} (h : blk a (mrP.mks 1 l.length) k) : blk a l k := by
  obtain ⟨h1, h2⟩ := h
  exact ⟨fun e => h1 (by subst e; rfl), h2⟩
/-- a row of its own, and where it lies -/
theorem mine_of {α : Type} {c : α → List Value} {n B : Nat} {U : TypeId} {l : List α} {w : World} {v : Value} (hn : ∀ e, (c e).length = n) (ho : w.ownsRow B U n v l.length (l.flatMap c)) : ∃ a cap, v = .slice a l.length cap ∧ Mine c n U w B a l := by
  obtain ⟨_, ⟨h1, h0⟩ | ⟨g, cap, cur, h1, h2, h3, h4, h5, h6, h7⟩⟩ := ho
  · have e : l = [] := List.eq_nil_of_length_eq_zero h0
    subst e
    exact ⟨none, 0, h1, .inl rfl⟩
  · refine ⟨_, cap, h1, .inr ⟨g, 0, rfl, h2, cur, h3, by rw [h6, Nat.zero_add]; exact Nat.mul_le_mul_right n h4, fun i e hi he j v hv => ?_⟩⟩
    have hf := fl.flat_at hn l i e he j v hv
    rw [← h7] at hf
    have hlt := (List.getElem?_eq_some_iff.1 hf).1
    rw [List.length_take] at hlt
    rw [List.getElem?_take_of_lt (by omega)] at hf
    rw [Nat.zero_add]
    simpa using hf
end Go.Proofs.YtlgcciaebkfnjaaGreatDoor.pmk

/- The specification's GetBatch. -/
namespace Go.Proofs.YtlgcciaebkfnjaaGreatDoor.gbs
open Go.ChangeShapes Go.WideShapes Go.ChangeAt Go.RowKit Go.Proofs.YtlgcciaebkfnjaaGreatDoor.fl Go.Proofs.YtlgcciaebkfnjaaGreatDoor.gbp
set_option linter.unusedVariables false

theorem got_bad1 {s : ByteArray} (h : (gi.okAt s 0 1 && decide (gi.num s 0 1 ≤ 60)) = false) : got s = none := by
  unfold got
  rw [h]
  rfl
theorem got_bad2 {s : ByteArray} (h : rn s (gi.num s 0 1).toNat 1 = none) : got s = none := by
  unfold got
  rw [h]
  split <;> rfl
theorem got_bad3 {s : ByteArray} {l : List flP.Pr} {e : Int} (h : rn s (gi.num s 0 1).toNat 1 = some (l, e)) (h2 : (decide (e = s.size) && bo.okb l) = false) : got s = none := by
  unfold got
  rw [h]
  simp only [h2]
  split <;> rfl
theorem got_good {s : ByteArray} {l : List flP.Pr} {e : Int} (h0 : (gi.okAt s 0 1 && decide (gi.num s 0 1 ≤ 60)) = true) (h : rn s (gi.num s 0 1).toNat 1 = some (l, e)) (h2 : (decide (e = s.size) && bo.okb l) = true) : got s = some l := by
  unfold got
  rw [if_pos h0, h]
  simp only [h2, if_true]
theorem stp_bad {s : ByteArray} {i : Int} (h : (gi.okAt s i 1 && (gs.here s (i + 1) && decide (gi.num s i 1 ≤ 1))) = false) : stp s i = none := by
  unfold stp
  rw [h]
  rfl
theorem stp_gone {s : ByteArray} {i : Int} (h : (gi.okAt s i 1 && (gs.here s (i + 1) && decide (gi.num s i 1 ≤ 1))) = true) (h1 : gi.num s i 1 = 1) : stp s i = some (⟨gs.text s (i + 1), ⟨#[]⟩, true⟩, gs.behind s (i + 1)) := by
  unfold stp
  rw [if_pos h, if_pos h1]
theorem stp_val {s : ByteArray} {i : Int} (h : (gi.okAt s i 1 && (gs.here s (i + 1) && decide (gi.num s i 1 ≤ 1))) = true) (h1 : gi.num s i 1 ≠ 1) (h2 : gl.here s (gs.behind s (i + 1)) = true) : stp s i = some (⟨gs.text s (i + 1), gl.text s (gs.behind s (i + 1)), false⟩, gl.behind s (gs.behind s (i + 1))) := by
  unfold stp
  rw [if_pos h, if_neg h1, if_pos h2]
theorem stp_noval {s : ByteArray} {i : Int} (h : (gi.okAt s i 1 && (gs.here s (i + 1) && decide (gi.num s i 1 ≤ 1))) = true) (h1 : gi.num s i 1 ≠ 1) (h2 : gl.here s (gs.behind s (i + 1)) = false) : stp s i = none := by
  unfold stp
  rw [if_pos h, if_neg h1, h2]
  rfl
theorem cpadd {g j : Nat} : (⟨g, 0, none⟩ : Addr).add j = ⟨g, j, none⟩ := by unfold Addr.add; split <;> simp_all
theorem own_on {w w' : World} {B n m : Nat} {T : TypeId} {v : Value} {xs : List Value} (h : w.ownsRow B T m v n xs) (hb : Below w.heap.size w w') : w'.ownsRow B T m v n xs :=
  h.kept (row := none) ⟨hb.os, hb.tape, hb.output, hb.size, fun k hk _ => hb.block k hk⟩ (by cases v.ownBlock <;> simp)
theorem infoP : ∃ i0, Tryz.prog.info? 49 = some i0 ∧ i0.zero = some (.agg #[.string ByteArray.empty, .string ByteArray.empty, .bool false]) ∧ i0.size = 3 ∧ i0.bytes = 40 := by
  have h : (Tryz.prog.info? 49).map (fun i => (i.zero, i.size, i.bytes)) = some (some (.agg #[.string ByteArray.empty, .string ByteArray.empty, .bool false]), 3, 40) := by kernel_rfl
  cases hh : Tryz.prog.info? 49 with
  | none => rw [hh] at h; cases h
  | some i => rw [hh] at h; simp at h; exact ⟨i, rfl, h.1, h.2.1, h.2.2⟩
/-- what stands when k pairs are read -/
structure St (s : ByteArray) (w : World) (n k : Nat) (i : Int) (l : List flP.Pr) (v : Value) (W : World) : Prop where
  bel : Below w.heap.size w W
  row : W.ownsRow w.heap.size 49 3 v l.length (l.flatMap flP.c)
  len : l.length = k
  left : gbp.Left s n l (n - k) i
  lo : 0 ≤ i
  hi : i ≤ s.size
  fit : ∀ e ∈ l, e.k.size ≤ 1048576 ∧ e.v.size ≤ 1048576

set_option maxRecDepth 100000 in
set_option maxHeartbeats 1000000 in
theorem spec_got (s : ByteArray) (w : World) (hs : s.size ≤ 1048576) :
    Calls Tryz.prog 93 #[.string s] w fun e w' => ∃ v, e = .returned (.tuple #[v, .bool (gotB s)]) ∧ w'.ownsRow w.heap.size 49 3 v (gotL s).length ((gotL s).flatMap flP.c) ∧ Below w.heap.size w w' := by
  obtain ⟨i0, hi, hz0, hz1, hz2⟩ := infoP
  have hg0 := gi.spec_get s 0 1 w hs (by omega) (by omega)
  go_enter Tryz.func93, Tryz.ntmps93
  go_wp2_with (go_at_call 91; fail)
  refine hg0.mono ?_
  rintro e w0 ⟨rfl, hw0⟩
  obtain rfl := hw0.symm
  clear hg0
  cases h0 : (gi.okAt s 0 1 && decide (gi.num s 0 1 ≤ 60)) with
  | false =>
    have HG : Hid (gotL s = [] ∧ gotB s = false) := got_none (got_bad1 h0)
    have hcase : gi.stop s 0 1 < 0 ∨ (¬ gi.stop s 0 1 < 0 ∧ 60 < gi.num s 0 1) := by
      cases ha : gi.okAt s 0 1 with
      | false => exact .inl (by rw [(stop_no ha).1]; omega)
      | true =>
        refine .inr ⟨by rw [stop_at ha]; omega, ?_⟩
        rw [ha] at h0
        simp at h0
        exact h0
    obtain ⟨n0, hn0⟩ : ∃ n0, gi.num s 0 1 = n0 := ⟨_, rfl⟩
    obtain ⟨a0, ha0⟩ : ∃ a0, gi.stop s 0 1 = a0 := ⟨_, rfl⟩
    rw [hn0, ha0] at hcase ⊢
    have HO : Hid ((w.alloc (.cells #[] 49)).ownsRow w.heap.size 49 3 (.slice (some ⟨w.heap.size, 0, none⟩) 0 0) 0 []) := World.ownsRow_made w #[] 0 (Nat.le_refl _) (by unfold maxLen; omega) (by simp)
    have HB : Hid (Below w.heap.size w (w.alloc (.cells #[] 49))) := (Below.refl _ _).alloc (Nat.le_refl _) _
    clear h0 hn0 ha0
    rcases hcase with hc | ⟨hc, hc2⟩
    all_goals
      go_wp2
      go_ret2
      rw [HG.out.1, HG.out.2]
      exact ⟨_, rfl, HO.out, HB.out⟩
  | true =>
    have H0 : Hid ((gi.okAt s 0 1 && decide (gi.num s 0 1 ≤ 60)) = true) := h0
    simp only [Bool.and_eq_true, decide_eq_true_eq] at h0
    obtain ⟨ha, hn60⟩ := h0
    have hin := at_in ha
    rw [stop_at ha]
    obtain ⟨n, hn⟩ : ∃ n : Nat, gi.num s 0 1 = (n : Int) := ⟨(gi.num s 0 1).toNat, by omega⟩
    have HN : Hid ((gi.num s 0 1).toNat = n) := by unfold Hid; rw [hn]; rfl
    rw [hn] at hn60 ⊢
    have hn60' : n ≤ 60 := by omega
    have d0 : ¬ ((60 : Int) < (n : Int)) := by omega
    have hS0 : St s w n 0 (0 + 1) [] (.slice (some ⟨w.heap.size, 0, none⟩) 0 0) (w.alloc (.cells #[] 49)) := ⟨(Below.refl _ _).alloc (Nat.le_refl _) _, World.ownsRow_made w #[] 0 (Nat.le_refl _) (by unfold maxLen; omega) (by simp), rfl, left_0 s n, by omega, by omega, fun e he => by cases he⟩
    have HS0 : Hid (St s w n 0 (0 + 1) [] (.slice (some ⟨w.heap.size, 0, none⟩) 0 0) (w.alloc (.cells #[] 49))) := hS0
    clear hS0 ha hin hn hn60
    go_wp2
    obtain ⟨W0, hW0⟩ : ∃ W0, w.alloc (.cells #[] 49) = W0 := ⟨_, rfl⟩
    rw [hW0] at HS0 ⊢
    clear hW0
    go_loopw [5, 6, 7] (fun y v x wr => ∃ (k : Nat) (i : Int) (l : List flP.Pr), k ≤ n ∧ y = .int .i64 i ∧ x = .int .i64 k ∧ Hid (St s w n k i l v wr)) (fun _ _ x _ => n - (intOf x).toNat)
    case atStart => exact ⟨0, 0 + 1, [], Nat.zero_le _, rfl, rfl, HS0⟩
    case round =>
      obtain ⟨k, i, l, hk, rfl, rfl, hst⟩ := hrel
      clear HS0
      have hlo := hst.out.lo
      have hhi := hst.out.hi
      by_cases hkn : k < n
      · have i2 : (k : Int) < (n : Int) := by omega
        have hgi := gi.spec_get s i 1 wr hs (by omega) (by omega)
        have hsz : -9223372036854775808 ≤ gi.stop s i 1 ∧ gi.stop s i 1 ≤ 9223372036854775807 := by
          cases ha : gi.okAt s i 1 with
          | false => rw [(stop_no ha).1]; omega
          | true => rw [stop_at ha]; omega
        have hgs := gs.spec_getShort s (gi.stop s i 1) wr hs hsz.1 hsz.2
        go_wp2_with (go_at_call 91; fail)
        refine hgi.mono ?_
        rintro e w1 ⟨rfl, hw1⟩
        obtain rfl := hw1.symm
        clear hgi hsz
        go_wp2_with (go_at_call 133; fail)
        refine hgs.mono ?_
        rintro e w2 ⟨rfl, hb2⟩
        clear hgs
        have hbel2 : Below w.heap.size w w2 := hst.out.bel.trans (hb2.mono hst.out.bel.size)
        cases hc : (gi.okAt s i 1 && (gs.here s (i + 1) && decide (gi.num s i 1 ≤ 1))) with
        | false =>
          have HG : Hid (gotL s = [] ∧ gotB s = false) := got_none (got_bad2 (by rw [HN.out]; exact left_no (by have := hst.out.left; rw [show n - k = (n - k - 1) + 1 by omega] at this; exact this) (stp_bad hc)))
          have HO : Hid ((w2.alloc (.cells #[] 49)).ownsRow w.heap.size 49 3 (.slice (some ⟨w2.heap.size, 0, none⟩) 0 0) 0 []) := World.ownsRow_made w2 #[] 0 (hbel2).size (by unfold maxLen; omega) (by simp)
          have HB : Hid (Below w.heap.size w (w2.alloc (.cells #[] 49))) := (hbel2).alloc (hbel2).size _
          have hcase : gi.stop s i 1 < 0 ∨ (¬ gi.stop s i 1 < 0 ∧ gs.behind s (gi.stop s i 1) < 0) ∨ (¬ gi.stop s i 1 < 0 ∧ ¬ gs.behind s (gi.stop s i 1) < 0 ∧ 1 < gi.num s i 1) := by
            cases ha : gi.okAt s i 1 with
            | false => exact .inl (by rw [(stop_no ha).1]; omega)
            | true =>
              rw [stop_at ha]
              rw [ha, Bool.true_and] at hc
              cases hh : gs.here s (i + 1) with
              | false => exact .inr (.inl ⟨by omega, by rw [short_no hh]; omega⟩)
              | true =>
                rw [hh, Bool.true_and] at hc
                have := short_in hh
                simp at hc
                exact .inr (.inr ⟨by omega, by omega, hc⟩)
          obtain ⟨g0, hg0⟩ : ∃ g0, gi.num s i 1 = g0 := ⟨_, rfl⟩
          obtain ⟨p0, hp0⟩ : ∃ p0, gi.stop s i 1 = p0 := ⟨_, rfl⟩
          rw [hg0, hp0] at hcase ⊢
          obtain ⟨e0, he0⟩ : ∃ e0, gs.behind s p0 = e0 := ⟨_, rfl⟩
          obtain ⟨t0, ht0⟩ : ∃ t0, gs.text s p0 = t0 := ⟨_, rfl⟩
          rw [he0] at hcase
          rw [he0, ht0]
          clear hc hg0 hp0 he0 ht0 hst hb2 hbel2
          rcases hcase with hc | ⟨hc, hc2⟩ | ⟨hc, hc2, hc3⟩
          all_goals
            go_wp2
            go_ret2
            rw [HG.out.1, HG.out.2]
            exact ⟨_, rfl, HO.out, HB.out⟩
        | true =>
          have HC : Hid ((gi.okAt s i 1 && (gs.here s (i + 1) && decide (gi.num s i 1 ≤ 1))) = true) := hc
          simp only [Bool.and_eq_true, decide_eq_true_eq] at hc
          obtain ⟨ha, hh, hg1⟩ := hc
          have hai := at_in ha
          have hsi := short_in hh
          rw [stop_at ha]
          obtain ⟨e0, he0⟩ : ∃ e0, gs.behind s (i + 1) = e0 := ⟨_, rfl⟩
          rw [he0] at hsi
          have hgl := gl.spec_getLong s e0 (w2.alloc (.cells #[.string (gs.text s (i + 1)), .string ⟨#[]⟩, .bool false] 49)) hs (by omega) (by omega)
          have HE0 : Hid (gs.behind s (i + 1) = e0) := he0
          by_cases hg : gi.num s i 1 = 1
          · rw [hg, he0]
            clear hgl
            have hll : l.length ≤ 60 := by have := hst.out.len; omega
            have hxb : Below w.heap.size w ((w2.alloc (.cells #[.string (gs.text s (i + 1)), .string ⟨#[]⟩, .bool true] 49)).alloc (.cells #[.string (gs.text s (i + 1)), .string ⟨#[]⟩, .bool true] 49)) := (hbel2.alloc hbel2.size (.cells #[.string (gs.text s (i + 1)), .string ⟨#[]⟩, .bool true] 49)).alloc (hbel2.alloc hbel2.size (.cells #[.string (gs.text s (i + 1)), .string ⟨#[]⟩, .bool true] 49)).size _
            obtain ⟨v', Y, hr, ho, hgr, _, _⟩ := run_append_own_at (P := Tryz.prog) ((w2.alloc (.cells #[.string (gs.text s (i + 1)), .string ⟨#[]⟩, .bool true] 49)).alloc (.cells #[.string (gs.text s (i + 1)), .string ⟨#[]⟩, .bool true] 49)) w.heap.size 24 24 49 i0 (.agg #[.string ByteArray.empty, .string ByteArray.empty, .bool false]) 3 40 Tryz.underlying24 hi hz0 hz1 hz2 rfl (by decide) u6 l.length (l.flatMap flP.c) (((own_on hst.out.row hb2).alloc _).alloc _) ⟨(w2.alloc (.cells #[.string (gs.text s (i + 1)), .string ⟨#[]⟩, .bool true] 49)).heap.size, 0, none⟩ 1 1 [.string (gs.text s (i + 1)), .string ⟨#[]⟩, .bool true] rfl (fun j u hu => by rw [cpadd]; exact bcell (bnew (w2.alloc (.cells #[.string (gs.text s (i + 1)), .string ⟨#[]⟩, .bool true] 49)) _ _) (by simpa using hu)) (by intro u hu; simp at hu; rcases hu with rfl | rfl | rfl <;> rfl) (by unfold maxLen; omega) (by omega) (by have := hxb.size; omega)
            have HN1 : Hid (St s w n (k + 1) e0 (l ++ [⟨gs.text s (i + 1), ⟨#[]⟩, true⟩]) v' Y) := by
              refine ⟨hxb.grown hgr hxb.size (fun b hb => (hst.out.row.lt b hb).1), ?_, by rw [List.length_append, hst.out.len]; rfl, ?_, hsi.1, hsi.2, fun e he => ?_⟩
              · rw [List.length_append, List.flatMap_append]
                simpa [flP.c] using ho
              · have h1 := left_yes (by have := hst.out.left; rw [show n - k = (n - k - 1) + 1 by omega] at this; exact this) (by rw [stp_gone HC.out hg, HE0.out])
                rw [show n - (k + 1) = n - k - 1 by omega]
                exact h1
              · rcases List.mem_append.1 he with he | he
                · exact hst.out.fit e he
                · simp at he
                  subst he
                  exact ⟨(text_small hs).1, by show (0 : Nat) ≤ _; omega⟩
            have he1 : ¬ e0 < 0 := by omega
            rw [World.size_alloc] at hr
            clear ho hgr hxb hst hbel2 hb2 he0 hg hg1 ha hh hai hll HE0 HC
            go_wp2_with (at_builtin; refine cpr.wpList_append_run rfl _ _ _ _ rfl _ _ _ rfl rfl hr ?_)
            go_roundw
            case rel => exact ⟨k + 1, e0, _, by omega, rfl, by go_num, HN1⟩
            case measure => simp [intOf]; omega
          · have hg0 : gi.num s i 1 = 0 := by omega
            rw [hg0, he0]
            have hll : l.length ≤ 60 := by have := hst.out.len; omega
            have hal2 : Below w2.heap.size w2 (w2.alloc (.cells #[.string (gs.text s (i + 1)), .string ⟨#[]⟩, .bool false] 49)) := (Below.refl _ _).alloc (Nat.le_refl _) _
            have hP := bnew w2 #[.string (gs.text s (i + 1)), .string ⟨#[]⟩, .bool false] 49
            have hPl : w2.heap.size < (w2.alloc (.cells #[.string (gs.text s (i + 1)), .string ⟨#[]⟩, .bool false] 49)).heap.size := by simp
            go_wp2_with (go_at_call 92; fail)
            refine hgl.mono ?_
            rintro e w3 ⟨rfl, hb3⟩
            have b3 := bstay hP hb3 hPl
            have c0 : w3.cell? ⟨w2.heap.size, 0, none⟩ = some (.string (gs.text s (i + 1))) := bcell b3 rfl
            have c1 : w3.cell? ⟨w2.heap.size, 1, none⟩ = some (.string ⟨#[]⟩) := bcell b3 rfl
            have c2 : w3.cell? ⟨w2.heap.size, 2, none⟩ = some (.bool false) := bcell b3 rfl
            have f1 := bfree b3 1
            have b4 := bset b3 1 (.string (gl.text s e0))
            have hb23 : Below w2.heap.size w2 (w3.setCell ⟨w2.heap.size, 1, none⟩ (.string (gl.text s e0))) := (hal2.trans (hb3.mono hal2.size)).setCell (Nat.le_refl _) _
            have hbel3 : Below w.heap.size w (w3.setCell ⟨w2.heap.size, 1, none⟩ (.string (gl.text s e0))) := hbel2.trans (hb23.mono hbel2.size)
            have hrow3 := own_on (own_on hst.out.row hb2) hb23
            have hw3 : (w3.setCell ⟨w2.heap.size, 1, none⟩ (.string (gl.text s e0))).heap.size = w3.heap.size := by simp
            clear hgl hP hPl hal2 hb3 b3
            cases hlh : gl.here s e0 with
            | false =>
              have HG : Hid (gotL s = [] ∧ gotB s = false) := got_none (got_bad2 (by rw [HN.out]; exact left_no (by have := hst.out.left; rw [show n - k = (n - k - 1) + 1 by omega] at this; exact this) (stp_noval HC.out hg (by rw [HE0.out]; exact hlh))))
              have HO : Hid (((w3.setCell ⟨w2.heap.size, 1, none⟩ (.string (gl.text s e0))).alloc (.cells #[] 49)).ownsRow w.heap.size 49 3 (.slice (some ⟨(w3.setCell ⟨w2.heap.size, 1, none⟩ (.string (gl.text s e0))).heap.size, 0, none⟩) 0 0) 0 []) := World.ownsRow_made (w3.setCell ⟨w2.heap.size, 1, none⟩ (.string (gl.text s e0))) #[] 0 hbel3.size (by unfold maxLen; omega) (by simp)
              have HB : Hid (Below w.heap.size w ((w3.setCell ⟨w2.heap.size, 1, none⟩ (.string (gl.text s e0))).alloc (.cells #[] 49))) := hbel3.alloc hbel3.size _
              rw [long_no hlh]
              rw [hw3] at HO
              clear hst hb2 hbel2 hb23 hbel3 hrow3 hw3 hg hg0 hg1 ha hh hai hlh he0 HE0 HC b4 hll
              go_wp2
              go_ret2
              rw [HG.out.1, HG.out.2]
              exact ⟨_, rfl, HO.out, HB.out⟩
            | true =>
              have hli := long_in hlh
              have hxb : Below w.heap.size w ((w3.setCell ⟨w2.heap.size, 1, none⟩ (.string (gl.text s e0))).alloc (.cells #[.string (gs.text s (i + 1)), .string (gl.text s e0), .bool false] 49)) := hbel3.alloc hbel3.size _
              obtain ⟨v', Y, hr, ho, hgr, _, _⟩ := run_append_own_at (P := Tryz.prog) ((w3.setCell ⟨w2.heap.size, 1, none⟩ (.string (gl.text s e0))).alloc (.cells #[.string (gs.text s (i + 1)), .string (gl.text s e0), .bool false] 49)) w.heap.size 24 24 49 i0 (.agg #[.string ByteArray.empty, .string ByteArray.empty, .bool false]) 3 40 Tryz.underlying24 hi hz0 hz1 hz2 rfl (by decide) u6 l.length (l.flatMap flP.c) (hrow3.alloc _) ⟨(w3.setCell ⟨w2.heap.size, 1, none⟩ (.string (gl.text s e0))).heap.size, 0, none⟩ 1 1 [.string (gs.text s (i + 1)), .string (gl.text s e0), .bool false] rfl (fun j u hu => by rw [cpadd]; exact bcell (bnew (w3.setCell ⟨w2.heap.size, 1, none⟩ (.string (gl.text s e0))) _ _) (by simpa using hu)) (by intro u hu; simp at hu; rcases hu with rfl | rfl | rfl <;> rfl) (by unfold maxLen; omega) (by omega) (by have := hxb.size; omega)
              have HN1 : Hid (St s w n (k + 1) (gl.behind s e0) (l ++ [⟨gs.text s (i + 1), gl.text s e0, false⟩]) v' Y) := by
                refine ⟨hxb.grown hgr hxb.size (fun b hb => (hst.out.row.lt b hb).1), ?_, by rw [List.length_append, hst.out.len]; rfl, ?_, hli.1, hli.2, fun e he => ?_⟩
                · rw [List.length_append, List.flatMap_append]
                  simpa [flP.c] using ho
                · have h1 := left_yes (by have := hst.out.left; rw [show n - k = (n - k - 1) + 1 by omega] at this; exact this) (by rw [stp_val HC.out hg (by rw [HE0.out]; exact hlh), HE0.out])
                  rw [show n - (k + 1) = n - k - 1 by omega]
                  exact h1
                · rcases List.mem_append.1 he with he | he
                  · exact hst.out.fit e he
                  · simp at he
                    subst he
                    exact ⟨(text_small hs).1, (text_small hs).2⟩
              have he1 : ¬ gl.behind s e0 < 0 := by omega
              obtain ⟨j0, hj0⟩ : ∃ j0, gl.behind s e0 = j0 := ⟨_, rfl⟩
              rw [hj0] at he1 HN1 ⊢
              have y0 : (w3.setCell ⟨w2.heap.size, 1, none⟩ (.string (gl.text s e0))).cell? ⟨w2.heap.size, 0, none⟩ = some (.string (gs.text s (i + 1))) := bcell b4 rfl
              have y1 : (w3.setCell ⟨w2.heap.size, 1, none⟩ (.string (gl.text s e0))).cell? ⟨w2.heap.size, 1, none⟩ = some (.string (gl.text s e0)) := bcell b4 rfl
              have y2 : (w3.setCell ⟨w2.heap.size, 1, none⟩ (.string (gl.text s e0))).cell? ⟨w2.heap.size, 2, none⟩ = some (.bool false) := bcell b4 rfl
              rw [hw3] at hr
              clear ho hgr hxb hst hbel2 hb2 hb23 hbel3 hrow3 hw3 he0 hg hg0 hg1 ha hh hai hll HE0 HC hlh hli hj0 b4
              go_wp2_with (at_builtin; refine cpr.wpList_append_run rfl _ _ _ _ rfl _ _ _ rfl rfl hr ?_)
              go_roundw
              case rel => exact ⟨k + 1, j0, _, by omega, rfl, by go_num, HN1⟩
              case measure => simp [intOf]; omega
      · obtain rfl : k = n := by omega
        have hrn := left_end (by have := hst.out.left; rw [Nat.sub_self] at this; exact this)
        obtain ⟨va, vc, hv⟩ : ∃ va vc, u6 = .slice va l.length vc := by
          obtain ⟨_, ⟨e, h0⟩ | ⟨g, cap, cur, e, _⟩⟩ := hst.out.row
          · exact ⟨none, 0, by rw [e, h0]⟩
          · exact ⟨_, _, e⟩
        have HST : Hid (St s w k k i l (.slice va l.length vc) wr) := by rw [← hv]; exact hst
        obtain rfl := hv
        have hll : l.length ≤ 60 := by have := hst.out.len; omega
        have hrow : Row flP.c 3 wr wr.heap.size va l := by
          obtain ⟨a', cap', e, hr⟩ := own_row flP.c_len hst.out.row
          cases e
          exact hr
        have hbo := bo.spec_okb l va vc wr ⟨by omega, hst.out.fit⟩ hrow
        obtain ⟨ok, hok⟩ : ∃ ok, bo.okb l = ok := ⟨_, rfl⟩
        rw [hok] at hbo
        by_cases he : i = (s.size : Int)
        · have d1 : (i != (s.size : Int)) = false := by simp [he]
          have HV : Hid (gotL s = (if ok then l else []) ∧ gotB s = ok) := by
            cases ok with
            | true => exact got_some (l := l) (got_good H0.out (by rw [HN.out]; exact hrn) (by rw [hok]; simp [he]))
            | false => exact got_none (got_bad3 (by rw [HN.out]; exact hrn) (by rw [hok]; simp))
          clear he hok hrn hst hrow
          go_wp2_with (go_at_call 134; fail)
          refine hbo.mono ?_
          rintro e w5 ⟨rfl, hb5⟩
          have HR5 : Hid (w5.ownsRow w.heap.size 49 3 (.slice va l.length vc) l.length (l.flatMap flP.c)) := own_on HST.out.row hb5
          have HB5 : Hid (Below w.heap.size w w5) := HST.out.bel.trans (hb5.mono HST.out.bel.size)
          clear hbo hb5 HST
          cases ok with
          | true =>
            go_wp2
            go_ret2
            rw [HV.out.1, HV.out.2]
            exact ⟨_, rfl, HR5.out, HB5.out⟩
          | false =>
            have HO : Hid ((w5.alloc (.cells #[] 49)).ownsRow w.heap.size 49 3 (.slice (some ⟨w5.heap.size, 0, none⟩) 0 0) 0 []) := World.ownsRow_made w5 #[] 0 HB5.out.size (by unfold maxLen; omega) (by simp)
            have HB : Hid (Below w.heap.size w (w5.alloc (.cells #[] 49))) := HB5.out.alloc HB5.out.size _
            go_wp2
            go_ret2
            rw [HV.out.1, HV.out.2]
            exact ⟨_, rfl, HO.out, HB.out⟩
        · have d1 : (i != (s.size : Int)) = true := by simp [he]
          have HV : Hid (gotL s = [] ∧ gotB s = false) := got_none (got_bad3 (by rw [HN.out]; exact hrn) (by simp [he]))
          have HO : Hid ((wr.alloc (.cells #[] 49)).ownsRow w.heap.size 49 3 (.slice (some ⟨wr.heap.size, 0, none⟩) 0 0) 0 []) := World.ownsRow_made wr #[] 0 HST.out.bel.size (by unfold maxLen; omega) (by simp)
          have HB : Hid (Below w.heap.size w (wr.alloc (.cells #[] 49))) := HST.out.bel.alloc HST.out.bel.size _
          clear he hok hrn hst hrow hbo
          go_wp2
          go_ret2
          rw [HV.out.1, HV.out.2]
          exact ⟨_, rfl, HO.out, HB.out⟩
end Go.Proofs.YtlgcciaebkfnjaaGreatDoor.gbs
