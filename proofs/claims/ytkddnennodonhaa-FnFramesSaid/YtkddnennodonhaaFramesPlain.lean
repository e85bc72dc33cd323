/- A frame comes back from its bytes, whatever stands behind; a part of it is not enough; what is read is put again. -/
import Derived.Test.YtkddnennodonhaaNumPlain
import Derived.Test.YtkddnennodonhaaPutFrameWalks
import Derived.Test.YtkddnennodonhaaFramesSpec
namespace Go.Proofs.Ytkddnennodonhaa.fp
open Go.Proofs.Ytkddnennodonhaa.fs

theorem num_one {s : ByteArray} {i : Nat} (h : i + 1 ≤ s.size) : gi.okAt s i 1 = true ∧ gi.num s i 1 = gi.bt s i := by
  have hok : gi.okAt s i 1 = true := by simp [gi.okAt, sz.mostOf]; omega
  refine ⟨hok, ?_⟩
  simp only [gi.num, hok, if_true]
  simp [gi.gi]
theorem ok_at {s : ByteArray} {i z : Nat} (hz : z = 2 ∨ z = 4) (h : i + z ≤ s.size) : gi.okAt s i z = true := by
  rcases hz with rfl | rfl <;> simp [gi.okAt, sz.mostOf] <;> omega

theorem put_next {r : ByteArray} (h : nf.code r = 0) : fr.ok (gi.bt r 0) (nf.chan r) (nf.pay r) = true ∧ pf.bytes (gi.bt r 0) (nf.chan r) (nf.pay r) = r.extract 0 (nf.len r + 8) ∧ nf.len r + 8 ≤ r.size := by
  obtain ⟨hk, h7, hl, hin, he⟩ := nf.code_ok.1 h
  obtain ⟨c, hc1, hc2, _⟩ := nf.num2 (s := r) h7
  obtain ⟨n, hn1, hn2, _⟩ := nf.num4 (s := r) h7
  have hlen : nf.len r = n := by unfold nf.len; rw [hn1]; simp
  have hps : (nf.pay r).size = n := by unfold nf.pay; rw [hlen, ByteArray.size_extract]; omega
  rw [hlen] at hl hin he ⊢
  have hok : fr.ok (gi.bt r 0) (nf.chan r) (nf.pay r) = true := fr.ok_true.2 ⟨hk, by unfold nf.chan; rw [hc1]; omega, by unfold nf.chan; rw [hc1]; omega, by rw [hps]; omega⟩
  refine ⟨hok, ?_, hin⟩
  have p1 := np.put_read r 0 1 (num_one (s := r) (i := 0) (by omega)).1
  have e1 : gi.num r 0 1 = gi.bt r 0 := (num_one (s := r) (i := 0) (by omega)).2
  have p2 := np.put_read r 1 2 (ok_at (s := r) (i := 1) (z := 2) (by omega) (by omega))
  have p4 := np.put_read r 3 4 (ok_at (s := r) (i := 3) (z := 4) (by omega) (by omega))
  have p6 := np.put_read r ((n + 7 : Nat) : Int) 1 (num_one (s := r) (i := n + 7) (by omega)).1
  have e6 : gi.num r ((n + 7 : Nat) : Int) 1 = 206 := by rw [(num_one (s := r) (i := n + 7) (by omega)).2, he]; rfl
  rw [e1] at p1
  rw [hn1] at p4
  rw [e6] at p6
  have q1 : pi.text (gi.bt r 0) 1 = r.extract 0 1 := p1
  have q2 : pi.text (nf.chan r) 2 = r.extract 1 3 := p2
  have q4 : pi.text (nf.pay r).size 4 = r.extract 3 7 := by rw [hps]; exact p4
  have q6 : pi.text 206 1 = r.extract (7 + n) (n + 8) := by
    rw [p6]
    congr 1
    omega
  have q5 : nf.pay r = r.extract 7 (7 + n) := by unfold nf.pay; rw [hlen]
  unfold pf.bytes
  rw [if_pos hok, q1, q2, q4, q6, np.extract_join r 0 1 3 (by omega) (by omega), np.extract_join r 0 3 7 (by omega) (by omega), q5, np.extract_join r 0 7 (7 + n) (by omega) (by omega), np.extract_join r 0 (7 + n) (n + 8) (by omega) (by omega)]

/-- the bytes of frames, one behind the other -/
def cat : List Fr → ByteArray
  | [] => ⟨#[]⟩
  | f :: l => pf.bytes f.k f.c f.p ++ cat l
theorem app_nil (a : ByteArray) : a ++ ⟨#[]⟩ = a := by apply ByteArray.ext; apply Array.toList_inj.1; simp
theorem nil_app (a : ByteArray) : (⟨#[]⟩ : ByteArray) ++ a = a := by apply ByteArray.ext; apply Array.toList_inj.1; simp
theorem app_assoc (a b c : ByteArray) : a ++ b ++ c = a ++ (b ++ c) := by apply ByteArray.ext; apply Array.toList_inj.1; simp
theorem cat_snoc : ∀ (l : List Fr) (f : Fr), cat (l ++ [f]) = cat l ++ pf.bytes f.k f.c f.p
  | [], f => by simp only [List.nil_append, cat]; rw [app_nil, nil_app]
  | g :: l, f => by simp only [List.cons_append, cat]; rw [cat_snoc l f, app_assoc]
theorem cat_frs : ∀ (m : Nat) (s : ByteArray), cat (frs m s).1 = s.extract 0 (frs m s).2.1 ∧ (frs m s).2.1 ≤ s.size
  | 0, s => by
    refine ⟨?_, Nat.zero_le _⟩
    simp only [frs, cat]
    exact (nf.empty_of (by rw [ByteArray.size_extract]; omega)).symm
  | m + 1, s => by
    by_cases h0 : s.size = 0
    · rw [frs_none _ _ h0]
      refine ⟨?_, Nat.zero_le _⟩
      simp only [cat]
      exact (nf.empty_of (by rw [ByteArray.size_extract]; omega)).symm
    · by_cases hc : nf.code s = 0
      · obtain ⟨ih1, ih2⟩ := cat_frs m (rest s)
        obtain ⟨_, hb, hl⟩ := put_next hc
        have hrs : (rest s).size = s.size - (nf.len s + 8) := by unfold rest; rw [ByteArray.size_extract]; omega
        rw [frs_ok _ _ h0 hc]
        refine ⟨?_, by show nf.len s + 8 + (frs m (rest s)).2.1 ≤ s.size; omega⟩
        show pf.bytes (gi.bt s 0) (nf.chan s) (nf.pay s) ++ cat (frs m (rest s)).1 = s.extract 0 (nf.len s + 8 + (frs m (rest s)).2.1)
        have e : (rest s).extract 0 (frs m (rest s)).2.1 = s.extract (nf.len s + 8) (nf.len s + 8 + (frs m (rest s)).2.1) := by
          unfold rest
          apply ByteArray.ext
          apply Array.toList_inj.1
          rw [Lib.extract_data, Lib.extract_to_end, Lib.extract_data, List.drop_zero]
          congr 1
          omega
        rw [hb, ih1, e, np.extract_join s 0 _ _ (by omega) (by omega)]
      · rw [frs_bad _ _ h0 hc]
        refine ⟨?_, Nat.zero_le _⟩
        simp only [cat]
        exact (nf.empty_of (by rw [ByteArray.size_extract]; omega)).symm
theorem good_frs : ∀ (m : Nat) (s : ByteArray), ∀ f ∈ (frs m s).1, fr.ok f.k f.c f.p = true
  | 0, s, f, hf => by simp [frs] at hf
  | m + 1, s, f, hf => by
    by_cases h0 : s.size = 0
    · rw [frs_none _ _ h0] at hf; simp at hf
    · by_cases hc : nf.code s = 0
      · rw [frs_ok _ _ h0 hc] at hf
        rcases List.mem_cons.1 hf with rfl | h1
        · exact (put_next hc).1
        · exact good_frs m (rest s) f h1
      · rw [frs_bad _ _ h0 hc] at hf; simp at hf

theorem fits_of {k c : Int} {p : ByteArray} (h : fr.ok k c p = true) : pi.fits k 1 = true ∧ pi.fits c 2 = true ∧ pi.fits (p.size : Int) 4 = true ∧ pi.fits 206 1 = true := by
  obtain ⟨hk, h0, h1, hp⟩ := fr.ok_true.1 h
  have hkb : 1 ≤ k ∧ k ≤ 8 := by
    unfold fr.kind at hk
    simp at hk
    omega
  refine ⟨?_, ?_, ?_, by decide⟩ <;> simp [pi.fits, sz.mostOf] <;> omega

/-- a frame comes back from its bytes, whatever stands behind -/
theorem next_put {k c : Int} {p : ByteArray} (h : fr.ok k c p = true) (u : ByteArray) :
    nf.code (pf.bytes k c p ++ u) = 0 ∧ ((gi.bt (pf.bytes k c p ++ u) 0 : Nat) : Int) = k ∧ nf.chan (pf.bytes k c p ++ u) = c ∧ nf.pay (pf.bytes k c p ++ u) = p ∧ nf.len (pf.bytes k c p ++ u) = p.size ∧ (pf.bytes k c p).size = p.size + 8 := by
  obtain ⟨f1, f2, f4, f6⟩ := fits_of h
  obtain ⟨hk, h0, h1, hp⟩ := fr.ok_true.1 h
  have s1 := np.text_size f1
  have s2 := np.text_size f2
  have s4 := np.text_size f4
  have s6 := np.text_size f6
  have eb : pf.bytes k c p = pi.text k 1 ++ pi.text c 2 ++ pi.text p.size 4 ++ p ++ pi.text 206 1 := by unfold pf.bytes; rw [if_pos h]
  obtain ⟨S, hS⟩ : ∃ S, pf.bytes k c p ++ u = S := ⟨_, rfl⟩
  have hbs : (pf.bytes k c p).size = p.size + 8 := by rw [eb]; simp only [ByteArray.size_append]; omega
  have hSs : S.size = p.size + 8 + u.size := by rw [← hS, ByteArray.size_append, hbs]
  have d1 : S = ⟨#[]⟩ ++ pi.text k 1 ++ (pi.text c 2 ++ pi.text p.size 4 ++ p ++ pi.text 206 1 ++ u) := by rw [← hS, eb]; apply ByteArray.ext; apply Array.toList_inj.1; simp
  have d2 : S = pi.text k 1 ++ pi.text c 2 ++ (pi.text p.size 4 ++ p ++ pi.text 206 1 ++ u) := by rw [← hS, eb]; apply ByteArray.ext; apply Array.toList_inj.1; simp
  have d4 : S = (pi.text k 1 ++ pi.text c 2) ++ pi.text p.size 4 ++ (p ++ pi.text 206 1 ++ u) := by rw [← hS, eb]; apply ByteArray.ext; apply Array.toList_inj.1; simp
  have d5 : S = (pi.text k 1 ++ pi.text c 2 ++ pi.text p.size 4) ++ p ++ (pi.text 206 1 ++ u) := by rw [← hS, eb]; apply ByteArray.ext; apply Array.toList_inj.1; simp
  have d6 : S = (pi.text k 1 ++ pi.text c 2 ++ pi.text p.size 4 ++ p) ++ pi.text 206 1 ++ u := by rw [← hS, eb]
  have r1 := (np.read_put f1 ⟨#[]⟩ (pi.text c 2 ++ pi.text p.size 4 ++ p ++ pi.text 206 1 ++ u)).1
  have r2 := (np.read_put f2 (pi.text k 1) (pi.text p.size 4 ++ p ++ pi.text 206 1 ++ u)).1
  have r4 := (np.read_put f4 (pi.text k 1 ++ pi.text c 2) (p ++ pi.text 206 1 ++ u)).1
  have r6 := (np.read_put f6 (pi.text k 1 ++ pi.text c 2 ++ pi.text p.size 4 ++ p) u).1
  have m5 := np.extract_mid (pi.text k 1 ++ pi.text c 2 ++ pi.text p.size 4) p (pi.text 206 1 ++ u)
  rw [← d1] at r1
  rw [← d2] at r2
  rw [← d4] at r4
  rw [← d5] at m5
  rw [← d6] at r6
  have z2 : (pi.text k 1).size = 1 := by omega
  have z4 : (pi.text k 1 ++ pi.text c 2).size = 3 := by rw [ByteArray.size_append]; omega
  have z5 : (pi.text k 1 ++ pi.text c 2 ++ pi.text p.size 4).size = 7 := by rw [ByteArray.size_append, z4]; omega
  have z6 : (pi.text k 1 ++ pi.text c 2 ++ pi.text p.size 4 ++ p).size = p.size + 7 := by rw [ByteArray.size_append, z5]; omega
  rw [z2] at r2
  rw [z4] at r4
  rw [z5] at m5
  rw [z6] at r6
  have z1 : (((⟨#[]⟩ : ByteArray).size : Nat) : Int) = 0 := rfl
  rw [z1] at r1
  have b0 : ((gi.bt S 0 : Nat) : Int) = k := by
    have := (num_one (s := S) (i := 0) (by omega)).2
    rw [← r1]
    exact this.symm
  have bl : nf.len S = p.size := by
    unfold nf.len
    rw [show gi.num S 3 4 = ((p.size : Nat) : Int) from r4]
    simp
  have b6 : gi.bt S (p.size + 7) = 206 := by
    have h2 := (num_one (s := S) (i := p.size + 7) (by omega)).2
    rw [show gi.num S ((p.size + 7 : Nat) : Int) 1 = 206 from r6] at h2
    omega
  rw [hS]
  refine ⟨nf.code_ok.2 ⟨by rw [b0]; exact hk, by omega, by rw [bl]; omega, by rw [bl]; omega, by rw [bl]; exact b6⟩, b0, r2, ?_, bl, hbs⟩
  unfold nf.pay
  rw [bl]
  exact m5

theorem bt_take (s : ByteArray) (j i : Nat) (hi : i < j) (hj : j ≤ s.size) : gi.bt (s.extract 0 j) i = gi.bt s i := by
  have hl : i < (s.extract 0 j).size := by rw [ByteArray.size_extract]; omega
  have h1 := Lib.data_getElem? (s.extract 0 j) i hl
  rw [Lib.extract_data, List.drop_zero, List.getElem?_take_of_lt (by omega), Lib.data_getElem? s i (by omega)] at h1
  rw [← gi.bt_eq _ i hl, ← gi.bt_eq s i (by omega), Option.some.inj h1]
theorem gi_take (s : ByteArray) (j a : Nat) (hj : j ≤ s.size) : ∀ k, a + k ≤ j → gi.gi (s.extract 0 j) a k = gi.gi s a k
  | 0, _ => rfl
  | k + 1, h => by simp only [gi.gi]; rw [gi_take s j a hj k (by omega), bt_take s j (a + k) (by omega) hj]

/-- a part of a frame is not enough -/
theorem part_put {k c : Int} {p : ByteArray} (h : fr.ok k c p = true) (j : Nat) (hj : j < (pf.bytes k c p).size) : nf.code ((pf.bytes k c p).extract 0 j) = 1 := by
  obtain ⟨_, hb0, _, _, hlen, hbs⟩ := next_put h ⟨#[]⟩
  rw [app_nil] at hb0 hlen
  obtain ⟨hk, h0, h1, hp⟩ := fr.ok_true.1 h
  obtain ⟨S, hS⟩ : ∃ S, pf.bytes k c p = S := ⟨_, rfl⟩
  rw [hS] at hj hb0 hlen hbs ⊢
  have hts : (S.extract 0 j).size = j := by rw [ByteArray.size_extract]; omega
  unfold nf.code
  rw [hts]
  by_cases hj0 : j = 0
  · rw [if_pos hj0]
  · rw [if_neg hj0]
    have hk' : fr.kind (gi.bt (S.extract 0 j) 0) = true := by rw [bt_take S j 0 (by omega) (by omega), hb0]; exact hk
    rw [if_neg (by rw [hk']; decide)]
    by_cases hj7 : j < 7
    · rw [if_pos hj7]
    · rw [if_neg hj7]
      have hl2 : nf.len (S.extract 0 j) = p.size := by
        rw [← hlen]
        unfold nf.len
        have o1 : gi.okAt (S.extract 0 j) 3 4 = true := ok_at (s := S.extract 0 j) (i := 3) (z := 4) (by omega) (by omega)
        have o2 : gi.okAt S 3 4 = true := ok_at (s := S) (i := 3) (z := 4) (by omega) (by omega)
        simp only [gi.num, o1, o2, if_true]
        rw [show (3 : Int).toNat = 3 from rfl, show (4 : Int).toNat = 4 from rfl, gi_take S j 3 (by omega) 4 (by omega)]
      rw [hl2, if_neg (by omega), if_pos (by omega)]
end Go.Proofs.Ytkddnennodonhaa.fp
