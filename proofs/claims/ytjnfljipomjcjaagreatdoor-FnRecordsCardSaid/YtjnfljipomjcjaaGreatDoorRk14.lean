/- Rows of pairs handed to append. -/
import Derived.Test.YtjnfljipomjcjaaGreatDoorRk13
import Derived.Test.YtjnfljipomjcjaaGreatDoorRk05
import Derived.Maps.Ext
import Derived.Maps.OwnSet
import Derived.Sort.KeysCollected
import Derived.Test.YtjnfljipomjcjaaGreatDoorFlPair
import Derived.Test.YtjnfljipomjcjaaGreatDoorRk03
import Derived.Maps.AppendAt

/- Ascending pairs, and one put in its place. -/
namespace Go.Proofs.YtjnfljipomjcjaaGreatDoor.mgp
open Go.Proofs.YtjnfljipomjcjaaGreatDoor.rc Go.Proofs.YtjnfljipomjcjaaGreatDoor.ro Go.Proofs.YtjnfljipomjcjaaGreatDoor.ptp
set_option linter.unusedVariables false

def Asc (l : List flP.Pr) : Prop := l.Pairwise fun a b => lt a.k b.k = true
theorem asc_key {l : List flP.Pr} (h : Asc l) {a b : flP.Pr} (ha : a ∈ l) (hb : b ∈ l) (hk : a.k = b.k) : a = b := by
  induction l with
  | nil => cases ha
  | cons x l ih =>
    obtain ⟨l1, l2⟩ := List.pairwise_cons.1 h
    rcases List.mem_cons.1 ha with rfl | ha'
    · rcases List.mem_cons.1 hb with rfl | hb'
      · rfl
      · have := l1 b hb'; rw [hk, lt_irrefl] at this; cases this
    · rcases List.mem_cons.1 hb with rfl | hb'
      · have := l1 a ha'; rw [hk, lt_irrefl] at this; cases this
      · exact ih l2 ha' hb'
theorem setP_cons (a : flP.Pr) (l : List flP.Pr) (e : flP.Pr) : setP (a :: l) e = if lt a.k e.k = true then a :: setP l e else if a.k = e.k then e :: l else e :: a :: l := by
  by_cases h : lt a.k e.k = true
  · have hp : posP (a :: l) e.k = posP l e.k + 1 := by show (if lt a.k e.k = true then posP l e.k + 1 else 0) = _; rw [if_pos h]
    rw [if_pos h]
    unfold setP restP
    rw [hp]
    have hi : isP (a :: l) (posP l e.k + 1) e.k = isP l (posP l e.k) e.k := by unfold isP; rw [List.getElem?_cons_succ]
    rw [hi]
    split <;> simp
  · have hp : posP (a :: l) e.k = 0 := by show (if lt a.k e.k = true then posP l e.k + 1 else 0) = _; rw [if_neg h]
    rw [if_neg h]
    unfold setP restP
    rw [hp]
    have hi : isP (a :: l) 0 e.k = decide (a.k = e.k) := rfl
    rw [hi]
    by_cases hk : a.k = e.k
    · rw [if_pos (decide_eq_true hk), if_pos hk]; simp
    · rw [if_neg (by simpa using hk), if_neg hk]; simp
theorem setP_iff : ∀ {l : List flP.Pr}, Asc l → ∀ (e x : flP.Pr), x ∈ setP l e ↔ x = e ∨ (x ∈ l ∧ x.k ≠ e.k)
  | [], _, e, x => by simp [setP, restP, posP, isP]
  | a :: l, h, e, x => by
    obtain ⟨l1, l2⟩ := List.pairwise_cons.1 h
    rw [setP_cons]
    split
    · rename_i hlt
      have hne : a.k ≠ e.k := fun hk => by rw [hk, lt_irrefl] at hlt; cases hlt
      rw [List.mem_cons, setP_iff l2 e x]
      constructor
      · rintro (rfl | rfl | ⟨h1, h2⟩)
        · exact .inr ⟨by simp, hne⟩
        · exact .inl rfl
        · exact .inr ⟨by simp [h1], h2⟩
      · rintro (rfl | ⟨h1, h2⟩)
        · exact .inr (.inl rfl)
        · rcases List.mem_cons.1 h1 with rfl | h1
          · exact .inl rfl
          · exact .inr (.inr ⟨h1, h2⟩)
    · rename_i hlt
      have hgt : ∀ y ∈ l, y.k ≠ e.k := fun y hy hk => hlt (by rw [← hk]; exact l1 y hy)
      split
      · rename_i hk
        rw [List.mem_cons]
        constructor
        · rintro (rfl | h1)
          · exact .inl rfl
          · exact .inr ⟨by simp [h1], hgt x h1⟩
        · rintro (rfl | ⟨h1, h2⟩)
          · exact .inl rfl
          · rcases List.mem_cons.1 h1 with rfl | h1
            · exact absurd hk h2
            · exact .inr h1
      · rename_i hk
        rw [List.mem_cons]
        constructor
        · rintro (rfl | h1)
          · exact .inl rfl
          · rcases List.mem_cons.1 h1 with rfl | h2
            · exact .inr ⟨h1, hk⟩
            · exact .inr ⟨h1, hgt x h2⟩
        · rintro (rfl | ⟨h1, h2⟩)
          · exact .inl rfl
          · exact .inr h1
theorem setP_asc : ∀ {l : List flP.Pr}, Asc l → ∀ (e : flP.Pr), Asc (setP l e)
  | [], _, e => by simp [setP, restP, posP, isP, Asc]
  | a :: l, h, e => by
    obtain ⟨l1, l2⟩ := List.pairwise_cons.1 h
    rw [setP_cons]
    split
    · rename_i hlt
      refine List.pairwise_cons.2 ⟨fun x hx => ?_, setP_asc l2 e⟩
      rcases (setP_iff l2 e x).1 hx with rfl | ⟨h1, _⟩
      · exact hlt
      · exact l1 x h1
    · rename_i hlt
      have hlt' : lt a.k e.k = false := by simpa using hlt
      split
      · rename_i hk
        exact List.pairwise_cons.2 ⟨fun x hx => by rw [← hk]; exact l1 x hx, l2⟩
      · rename_i hk
        have hea := lt_tri hlt' hk
        refine List.pairwise_cons.2 ⟨fun x hx => ?_, h⟩
        rcases List.mem_cons.1 hx with rfl | hx
        · exact hea
        · exact lt_trans hea (l1 x hx)
end Go.Proofs.YtjnfljipomjcjaaGreatDoor.mgp

/- Replay: what the batches of a log leave, as an ascending list of pairs and as a map's datum. -/
namespace Go.Proofs.YtjnfljipomjcjaaGreatDoor.rpp
open Go.ChangeShapes Go.WideShapes Go.ChangeAt Go.RowKit Go.Proofs.YtjnfljipomjcjaaGreatDoor.fl Go.Proofs.YtjnfljipomjcjaaGreatDoor.rc Go.Proofs.YtjnfljipomjcjaaGreatDoor.ro Go.Proofs.YtjnfljipomjcjaaGreatDoor.ptp Go.Proofs.YtjnfljipomjcjaaGreatDoor.mgp
set_option linter.unusedVariables false

/-- what the pairs leave, one behind the other -/
def ev (A : List flP.Pr) : List flP.Pr := A.foldl setP []
theorem ev_app (A : List flP.Pr) (p : flP.Pr) : ev (A ++ [p]) = setP (ev A) p := by simp [ev, List.foldl_append]
theorem fold_asc : ∀ (A L : List flP.Pr), Asc L → Asc (A.foldl setP L)
  | [], L, h => h
  | a :: A, L, h => fold_asc A _ (setP_asc h a)
theorem ev_asc (A : List flP.Pr) : Asc (ev A) := fold_asc A [] List.Pairwise.nil
theorem fold_len : ∀ (A L : List flP.Pr), (A.foldl setP L).length ≤ L.length + A.length
  | [], L => by simp
  | a :: A, L => by
    have h1 := fold_len A (setP L a)
    have h2 := setP_le L a
    simp only [List.foldl_cons, List.length_cons]
    omega
theorem ev_len (A : List flP.Pr) : (ev A).length ≤ A.length := by have := fold_len A []; simpa [ev] using this
def kl (b : ByteArray) : Lit := .string b.data.toList
def pd (p : flP.Pr) : DataW Unit := .agg [.lit (.string p.k.data.toList), .lit (.string p.v.data.toList), .lit (.bool p.g)]
def en (p : flP.Pr) : Lit × DataW Unit := (kl p.k, pd p)
/-- pairs as a map's datum -/
def dm (L : List flP.Pr) : DataW Unit := .map (L.map en)
/-- how a map's element reads -/
def rdl : List Value → Option (DataW Unit × List MemPlace)
  | [.string k, .string v, .bool g] => some (pd ⟨k, v, g⟩, [])
  | _ => none
def rd : Value → Option (DataW Unit × List MemPlace)
  | .agg cs => rdl cs.toList
  | _ => none
theorem rd_mk (k v : ByteArray) (g : Bool) : rd (.agg #[.string k, .string v, .bool g]) = some (pd ⟨k, v, g⟩, []) := rfl
theorem rdl_inv {l : List Value} {z : DataW Unit × List MemPlace} (h : rdl l = some z) : ∃ k v g, l = [.string k, .string v, .bool g] ∧ z = (pd ⟨k, v, g⟩, []) := by
  unfold rdl at h
  split at h
  · exact ⟨_, _, _, rfl, (Option.some.inj h).symm⟩
  · cases h
theorem rd_inv {x : Value} {z : DataW Unit × List MemPlace} (h : rd x = some z) : ∃ k v g, x = .agg #[.string k, .string v, .bool g] ∧ z = (pd ⟨k, v, g⟩, []) := by
  cases x <;> try (cases h)
  rename_i cs
  obtain ⟨k, v, g, h1, h2⟩ := rdl_inv (l := cs.toList) h
  refine ⟨k, v, g, ?_, h2⟩
  congr 1
  exact Array.toList_inj.1 (by rw [h1])
theorem data_inj {a b : ByteArray} (h : a.data.toList = b.data.toList) : a = b := ByteArray.ext (Array.toList_inj.1 h)
theorem pd_inj {p q : flP.Pr} (h : pd p = pd q) : p = q := by
  obtain ⟨k, v, g⟩ := p
  obtain ⟨k', v', g'⟩ := q
  simp only [pd, DataW.agg.injEq, List.cons.injEq, DataW.lit.injEq, Lit.string.injEq, Lit.bool.injEq] at h
  obtain ⟨h1, h2, h3, _⟩ := h
  rw [data_inj h1, data_inj h2, h3]
theorem before_less : ∀ (a b : List UInt8), bytesBefore a b = Op.bytesLess a b
  | [], [] => rfl
  | [], _ :: _ => rfl
  | _ :: _, [] => rfl
  | x :: a, y :: b => by simp only [bytesBefore, Op.bytesLess, before_less a b]
theorem lt_data (a b : ByteArray) : lt a b = Op.bytesLess a.data.toList b.data.toList := by unfold lt; rw [Lib.toList_data, Lib.toList_data]
theorem before_lt (a b : ByteArray) : (kl a).before (kl b) = lt a b := by rw [lt_data]; exact before_less _ _
theorem same_iff (a b : ByteArray) : (kl a).sameKey (kl b) = decide (a = b) := by
  show (a.data.toList == b.data.toList) = _
  by_cases h : a = b
  · subst h; simp
  · rw [decide_eq_false h]
    simp only [beq_eq_false_iff_ne, ne_eq]
    exact fun e => h (data_inj e)
theorem ins_front (e : flP.Pr) : ∀ (l : List flP.Pr), (∀ b ∈ l, lt e.k b.k = true) → DataW.insert (en e) (l.map en) = (e :: l).map en
  | [], _ => rfl
  | b :: l, h => by
    have hb : (en e).1.before (en b).1 = true := by show (kl e.k).before (kl b.k) = true; rw [before_lt]; exact h b (List.mem_cons_self ..)
    simp only [List.map_cons, DataW.insert]
    rw [if_pos hb]
theorem keep_all (e : flP.Pr) (l : List flP.Pr) (h : ∀ b ∈ l, b.k ≠ e.k) : ((l.map en).filter fun p => !p.1.sameKey (kl e.k)) = l.map en := by
  rw [List.filter_eq_self]
  intro p hp
  obtain ⟨b, hb, rfl⟩ := List.mem_map.1 hp
  show (!(kl b.k).sameKey (kl e.k)) = true
  rw [same_iff, decide_eq_false (h b hb)]
  rfl
theorem put_list (e : flP.Pr) : ∀ (L : List flP.Pr), Asc L → DataW.insert (en e) ((L.map en).filter fun p => !p.1.sameKey (kl e.k)) = (setP L e).map en
  | [], _ => rfl
  | a :: l, h => by
    obtain ⟨h1, h2⟩ := List.pairwise_cons.1 h
    rw [setP_cons]
    by_cases c1 : lt a.k e.k = true
    · rw [if_pos c1]
      have hne : a.k ≠ e.k := fun e2 => by rw [e2, lt_irrefl] at c1; cases c1
      have hk : (!(kl a.k).sameKey (kl e.k)) = true := by rw [same_iff, decide_eq_false hne]; rfl
      have hb : ¬ (en e).1.before (en a).1 = true := by
        show ¬ (kl e.k).before (kl a.k) = true
        rw [before_lt, lt_asymm c1]
        exact Bool.false_ne_true
      have hf : ((a :: l).map en).filter (fun p => !p.1.sameKey (kl e.k)) = en a :: (l.map en).filter (fun p => !p.1.sameKey (kl e.k)) := by
        rw [List.map_cons, List.filter_cons]
        exact if_pos hk
      rw [hf]
      simp only [DataW.insert, List.map_cons]
      rw [if_neg hb, put_list e l h2]
    · rw [if_neg c1]
      have c1' : lt a.k e.k = false := by simpa using c1
      by_cases c2 : a.k = e.k
      · rw [if_pos c2]
        have hk : ¬ (!(kl a.k).sameKey (kl e.k)) = true := by rw [same_iff, decide_eq_true c2]; exact Bool.false_ne_true
        have hl : ∀ b ∈ l, lt e.k b.k = true := fun b hb => c2 ▸ h1 b hb
        have hf : ((a :: l).map en).filter (fun p => !p.1.sameKey (kl e.k)) = l.map en := by
          rw [List.map_cons, List.filter_cons]
          exact (if_neg hk).trans (keep_all e l (fun b hb e2 => by have := hl b hb; rw [e2, lt_irrefl] at this; cases this))
        rw [hf]
        exact ins_front e l hl
      · rw [if_neg c2]
        have c3 : lt e.k a.k = true := lt_tri c1' c2
        have hl : ∀ b ∈ a :: l, lt e.k b.k = true := fun b hb => by
          rcases List.mem_cons.1 hb with rfl | hb
          · exact c3
          · exact lt_trans c3 (h1 b hb)
        rw [keep_all e (a :: l) (fun b hb e2 => by have := hl b hb; rw [e2, lt_irrefl] at this; cases this)]
        exact ins_front e (a :: l) hl
theorem dm_put {L : List flP.Pr} (h : Asc L) (e : flP.Pr) : (dm L).put (kl e.k) (pd e) = dm (setP L e) := by
  show DataW.map (DataW.insert (en e) ((L.map en).filter fun p => !p.1.sameKey (kl e.k))) = _
  rw [put_list e L h]
  rfl
theorem dm_at : ∀ {L : List flP.Pr}, Asc L → ∀ {p : flP.Pr}, p ∈ L → ∀ z, (dm L).atKey (kl p.k) z = pd p
  | [], _, p, hp, z => by cases hp
  | a :: l, h, p, hp, z => by
    obtain ⟨h1, h2⟩ := List.pairwise_cons.1 h
    by_cases c : a.k = p.k
    · have e : a = p := asc_key h (List.mem_cons_self ..) hp c
      subst e
      have hs : (en a).1.sameKey (kl a.k) = true := by show (kl a.k).sameKey (kl a.k) = true; rw [same_iff]; simp
      simp only [dm, DataW.atKey, List.map_cons, List.find?_cons, hs]
      rfl
    · have hp' : p ∈ l := by
        rcases List.mem_cons.1 hp with rfl | hp
        · exact absurd rfl c
        · exact hp
      have ih := dm_at h2 hp' z
      have hs : (en a).1.sameKey (kl p.k) = false := by show (kl a.k).sameKey (kl p.k) = false; rw [same_iff, decide_eq_false c]
      simp only [dm, DataW.atKey, List.map_cons, List.find?_cons, hs] at ih ⊢
      exact ih
def bts (L : List flP.Pr) : List (List UInt8) := L.map fun p => p.k.data.toList
theorem dm_keys (L : List flP.Pr) : Go.strKeys (dm L) = bts L := by
  show (L.map en).map _ = _
  rw [List.map_map]
  rfl
theorem dm_size (L : List flP.Pr) : Maps.size (dm L) = L.length := by
  show (L.map en).length = _
  rw [List.length_map]
theorem less_lt : ∀ (a b : List UInt8), Op.bytesLess a b = true → a < b
  | _, [], h => by simp [Op.bytesLess] at h
  | [], y :: b, _ => by simp
  | x :: a, y :: b, h => by
    simp only [Op.bytesLess, Bool.or_eq_true, decide_eq_true_eq, Bool.and_eq_true, beq_iff_eq] at h
    rw [List.cons_lt_cons_iff]
    rcases h with h | ⟨h1, h2⟩
    · exact .inl h
    · exact .inr ⟨h1, less_lt a b h2⟩
theorem bts_sorted {L : List flP.Pr} (h : Asc L) : (bts L).Pairwise fun a b => a ≤ b := by
  unfold bts
  rw [List.pairwise_map]
  refine h.imp fun {a b} hab => ?_
  rw [lt_data] at hab
  exact List.le_of_lt (less_lt _ _ hab)
theorem sorted_keys {L : List flP.Pr} (h : Asc L) {ss : List (List UInt8)} (hp : ss.Perm (bts L)) : ss.mergeSort (fun x y => decide (x ≤ y)) = bts L := by
  refine List.Perm.eq_of_pairwise (le := fun a b : List UInt8 => a ≤ b) (fun a b _ _ h1 h2 => List.le_antisymm h1 h2) ?_ (bts_sorted h) ((List.mergeSort_perm _ _).trans hp)
  have := List.pairwise_mergeSort (le := fun x y : List UInt8 => decide (x ≤ y)) (fun a b c h1 h2 => by simp only [decide_eq_true_eq] at *; exact List.le_trans h1 h2) (fun a b => by simp only [Bool.or_eq_true, decide_eq_true_eq]; exact List.le_total a b) ss
  exact this.imp fun h => by simpa using h
/-- what is left of a log -/
noncomputable def rep (s : ByteArray) : List flP.Pr := (ev (rcp.recs s).1.flatten).filter (fun e => !e.g)
end Go.Proofs.YtjnfljipomjcjaaGreatDoor.rpp

/- Rows of pairs handed to append. -/
namespace Go.Proofs.YtjnfljipomjcjaaGreatDoor.sct
open Go.ChangeShapes Go.WideShapes Go.ChangeAt Go.RowKit Go.Proofs.YtjnfljipomjcjaaGreatDoor.fl
set_option linter.unusedVariables false

theorem add0 (g j : Nat) : (⟨g, 0, none⟩ : Addr).add j = ⟨g, j, none⟩ := by unfold Addr.add; split <;> simp_all
theorem own_low {w : World} {B B' n : Nat} {U : TypeId} {s : Nat} {v : Value} {xs : List Value} (h : w.ownsRow B U s v n xs) (hb : B' ≤ B) : w.ownsRow B' U s v n xs := by
  obtain ⟨h0, h1 | ⟨g, cap, cur, h1, h2, h3⟩⟩ := h
  · exact ⟨h0, .inl h1⟩
  · exact ⟨h0, .inr ⟨g, cap, cur, h1, by omega, h3⟩⟩
theorem newsP {w : World} {a B : Nat} {l : List flP.Pr} (h : Row flP.c 3 w B (some ⟨a, 0, none⟩) l) : ∀ (j : Nat) (u : Value), (l.flatMap flP.c)[j]? = some u → w.cell? ((⟨a, 0, none⟩ : Addr).add j) = some u := fun j u hu => by
  obtain ⟨i, e, r, h1, h2, rfl⟩ := flat_get flP.c_len l j u hu
  rcases h with rfl | ⟨g, off, ha, _, hc⟩
  · simp at h1
  · cases ha
    rw [add0]
    have := hc i e h1 r u h2
    rw [Nat.zero_add] at this
    exact this
theorem oneP (l : List flP.Pr) : ∀ u ∈ l.flatMap flP.c, u.oneCell' = true := fun u hu => by
  obtain ⟨e, _, he⟩ := List.mem_flatMap.1 hu
  simp [flP.c] at he
  rcases he with rfl | rfl | rfl <;> rfl
theorem infoP : ∃ i0, Tryz.prog.info? 61 = some i0 ∧ i0.zero = some (.agg #[.string ByteArray.empty, .string ByteArray.empty, .bool false]) ∧ i0.size = 3 ∧ i0.bytes = 40 := by
  have h := flP.info
  cases hh : Tryz.prog.info? 61 with
  | none => rw [hh] at h; cases h
  | some i => rw [hh] at h; simp at h; exact ⟨i, rfl, h.1, h.2.1, h.2.2⟩
end Go.Proofs.YtjnfljipomjcjaaGreatDoor.sct
