/- The specification's StreamTrim: the stream without its oldest entries; new memory alone. -/
import Derived.Test.YtlfhfcgcfggjcaaStreamWay
import Derived.Test.YtlfhfcgcfggjcaaStreamSeekWalks
namespace Go.Proofs.Ytlfhfcgcfggjcaa.strm
open Go.ChangeShapes Go.WideShapes Go.ChangeAt Go.RowKit Go.Proofs.Ytlfhfcgcfggjcaa.fl Go.Proofs.Ytlfhfcgcfggjcaa.fo Go.Proofs.Ytlfhfcgcfggjcaa.rr Go.Proofs.Ytlfhfcgcfggjcaa.st Go.Proofs.Ytlfhfcgcfggjcaa.srd Go.Proofs.Ytlfhfcgcfggjcaa.scp Go.Proofs.Ytlfhfcgcfggjcaa.spw
set_option linter.unusedVariables false

/-- how many entries go -/
def gone (es : List flY.En) (count oldest : Int) : Nat := max (es.length - count.toNat) (ssk.first es oldest)
noncomputable def goes (sn : ByteArray) (lo nx : Int) (es : List flY.En) (ms : List Ex) (count oldest : Int) : Nat := if okB sn lo nx es ms = true ∧ 0 ≤ count then gone es count oldest else 0
noncomputable def ansE (sn : ByteArray) (lo nx : Int) (es : List flY.En) (ms : List Ex) (count oldest : Int) : List flY.En := es.drop (goes sn lo nx es ms count oldest)
noncomputable def ansL (sn : ByteArray) (lo nx : Int) (es : List flY.En) (ms : List Ex) (count oldest : Int) : Int := lo + goes sn lo nx es ms count oldest
theorem gone_le (es : List flY.En) (count oldest : Int) : gone es count oldest ≤ es.length := by
  have := ssk.first_le es oldest
  unfold gone
  omega
theorem first_ahead {t : Int} : ∀ (l : List flY.En) (i : Nat) (a : flY.En), i < ssk.first l t → l[i]? = some a → a.t < t
  | [], i, a, h, _ => by simp [ssk.first] at h
  | e :: r, 0, a, h, ha => by
    simp at ha
    subst ha
    by_cases hq : t ≤ e.t
    · simp [ssk.first, hq] at h
    · omega
  | e :: r, i + 1, a, h, ha => by
    by_cases hq : t ≤ e.t
    · simp [ssk.first, hq] at h
    · simp only [ssk.first, hq, if_false] at h
      exact first_ahead r i a (by omega) (by simpa using ha)
theorem first_at {t : Int} : ∀ (l : List flY.En) (a : flY.En), l[ssk.first l t]? = some a → t ≤ a.t
  | [], a, h => by simp at h
  | e :: r, a, h => by
    by_cases hq : t ≤ e.t
    · simp [ssk.first, hq] at h
      subst h
      exact hq
    · simp only [ssk.first, hq, if_false] at h
      exact first_at r a (by simpa using h)
/-- whether one more goes -/
theorem goes_iff {es : List flY.En} {count oldest : Int} {k : Nat} {e : flY.En} (hS : ∀ (i : Nat) a b, es[i]? = some a → es[i + 1]? = some b → a.t ≤ b.t) (hc : 0 ≤ count) (he : es[k]? = some e) : (count < ((es.length - k : Nat) : Int) ∨ e.t < oldest) ↔ k < gone es count oldest := by
  have hk := (List.getElem?_eq_some_iff.1 he).1
  have h1 : e.t < oldest ↔ k < ssk.first es oldest := by
    constructor
    · intro h
      by_cases hq : k < ssk.first es oldest
      · exact hq
      · have hfl : ssk.first es oldest < es.length := by omega
        have hf : es[ssk.first es oldest]? = some es[ssk.first es oldest] := List.getElem?_eq_getElem hfl
        have h2 := first_at es _ hf
        have h3 := ssk.sorted hS (k - ssk.first es oldest) (ssk.first es oldest) _ e hf (by rw [show ssk.first es oldest + (k - ssk.first es oldest) = k by omega]; exact he)
        omega
    · intro h
      exact first_ahead es k e h he
  rw [h1]
  unfold gone
  omega

def lenAt (n8 : Nat) (w : World) : Nat := match w.cell? ⟨n8, 3, none⟩ with | some (.slice _ n _) => n | _ => 0
theorem lenAt_eq {n8 n c : Nat} {a : Option Addr} {w : World} (h : w.cell? ⟨n8, 3, none⟩ = some (.slice a n c)) : lenAt n8 w = n := by unfold lenAt; rw [h]
theorem own_cap {w : World} {B n s g c : Nat} {U : TypeId} {xs : List Value} (h : w.ownsRow B U s (.slice (some ⟨g, 0, none⟩) n c) n xs) : n ≤ c := by
  obtain ⟨_, ⟨h1, _⟩ | ⟨g', cap', cur, h1, h2, h3, h4, _⟩⟩ := h
  · cases h1
  cases h1
  exact h4
set_option maxRecDepth 100000 in
theorem trim_sp {w : World} {sn : ByteArray} {lo nx : Int} {es : List flY.En} {ms : List Ex} {g h : Option Addr} {cg ch : Nat} {n8 g1 c1 h1 c2 g3 c3 : Nat} {lv nv : Int} {l l' : List flY.En} {X w3 : World} (hs : SP w sn lo nx es ms g h cg ch n8 lv nv g1 c1 h1 c2 l X) (hg : (X.alloc (.cells #[] 42)).grownBy w3 (some X.heap.size))
    (ho : w3.ownsRow (w.heap.size + 2) 42 3 (.slice (some ⟨g3, 0, none⟩) l'.length c3) l'.length (l'.flatMap flY.c)) :
    (w3.cell? ⟨n8, 3, none⟩ = some (.slice (some ⟨g1, 0, none⟩) l.length c1) ∧ w3.cell? ⟨n8, 1, none⟩ = some (.int .i64 lv)) ∧ (w3.frozen? ⟨n8, 3, none⟩ = false ∧ w3.frozen? ⟨n8, 1, none⟩ = false) ∧
    SP w sn lo nx es ms g h cg ch n8 (lv + 1) nv g3 c3 h1 c2 l' ((w3.setCell ⟨n8, 3, none⟩ (.slice (some ⟨g3, 0, none⟩) l'.length c3)).setCell ⟨n8, 1, none⟩ (.int .i64 (lv + 1))) := by
  have h8 := hs.h8
  have hal : Below X.heap.size X (X.alloc (.cells #[] 42)) := (Below.refl _ _).alloc (Nat.le_refl _) _
  have hX := hs.on hal
  have l1 := (Array.getElem?_eq_some_iff.1 hs.box).1
  have l2 := (Array.getElem?_eq_some_iff.1 hs.res).1
  have l3 := (Array.getElem?_eq_some_iff.1 hs.out).1
  have b1 := grown_at hg hX.box (by simp; omega)
  have b2 := grown_at hg hX.res (by simp; omega)
  have b3 := grown_at hg hX.out (by simp; omega)
  obtain ⟨hh1, cur, hcur⟩ := owns_at hs.om
  have l4 := (Array.getElem?_eq_some_iff.1 hcur).1
  have hm := hX.om.kept hg (.inr (by simp [Value.ownBlock]; omega))
  have hbel : Below w.heap.size w w3 := hX.bel.grown hg hX.bel.size (fun k hk => by cases hk; have := hs.size; omega)
  have hm8 := owns_ne (by decide) hm b3
  have hg8 := owns_ne (by decide) ho b3
  exact ⟨⟨bcell b3 rfl, bcell b3 rfl⟩, ⟨bfree b3 3, bfree b3 1⟩, (hbel.setCell (by show w.heap.size ≤ n8; omega) _).setCell (by show w.heap.size ≤ n8; omega) _, boff (boff b1 _ _ _ (by omega)) _ _ _ (by omega), boff (boff b2 _ _ _ (by omega)) _ _ _ (by omega), bset (bset b3 3 _) 1 _, owns_set (owns_set ho hg8 _) hg8 _, owns_set (owns_set hm hm8 _) hm8 _, h8⟩
theorem news_drop {w : World} {g : Nat} {es : List flY.En} (hr : RY w g es) : ∀ (j : Nat) (u : Value), ((es.drop 1).flatMap flY.c)[j]? = some u → w.cell? ((⟨g, 3, none⟩ : Addr).add j) = some u := fun j u hu => by
  obtain ⟨i, e, r, h1, h2, rfl⟩ := flat_get flY.c_len (es.drop 1) j u hu
  rw [List.getElem?_drop] at h1
  rw [add_at, show 3 + (i * 3 + r) = (1 + i) * 3 + r by omega]
  obtain ⟨a0, a1, a2⟩ := hr.2 (1 + i) e h1
  match r, h2 with
  | 0, h2 => cases h2; exact a0
  | 1, h2 => cases h2; exact a1
  | 2, h2 => cases h2; exact a2
  | r + 3, h2 => simp [flY.c] at h2

theorem newcell {w w' : World} {p : Addr} {u : Value} (hb : Below w.heap.size w w') (h : w.cell? p = some u) : w'.cell? p = some u := (hb.cell (block_lt_of_cell h)).trans h

set_option maxRecDepth 100000 in
set_option maxHeartbeats 4000000 in
theorem spec_trim (sn : ByteArray) (lo nx : Int) (es : List flY.En) (ms : List Ex) (g h cg ch : Nat) (count oldest : Int) (w : World) (F : Fit sn es ms) (hY : RY w g es) (hE : RE w h ms) (ga ha : Option Addr) (hga : Hid (apo.NA ga g es.length cg)) (hha : Hid (apo.NA ha h ms.length ch)) :
    Calls Try.prog 7 #[.agg #[.string sn, .int .i64 lo, .int .i64 nx, .slice ga es.length cg, .slice ha ms.length ch], .int .i64 count, .int .i64 oldest] w fun e w' => ∃ sa ce sb cb, e = .returned (.agg #[.string sn, .int .i64 (ansL sn lo nx es ms count oldest), .int .i64 nx, .slice sa (ansE sn lo nx es ms count oldest).length ce, .slice sb ms.length cb]) ∧ OR flY.c 3 42 w' w.heap.size sa ce (ansE sn lo nx es ms count oldest) ∧ OR flK.c 2 56 w' w.heap.size sb cb ms ∧ Below w.heap.size w w' := by
  have hWb : Below w.heap.size w ((w.alloc (.cells #[.string sn, .int .i64 lo, .int .i64 nx, .slice ga es.length cg, .slice ha ms.length ch] 27)).alloc (.cells #[.string ⟨#[]⟩, .int .i64 0, .int .i64 0, .slice none 0 0, .slice none 0 0] 27)) := ((Below.refl _ _).alloc (Nat.le_refl _) _).alloc (by simp) _
  have hcopy := spec_copy sn lo nx es ms g h cg ch ((w.alloc (.cells #[.string sn, .int .i64 lo, .int .i64 nx, .slice ga es.length cg, .slice ha ms.length ch] 27)).alloc (.cells #[.string ⟨#[]⟩, .int .i64 0, .int .i64 0, .slice none 0 0, .slice none 0 0] 27)) F (hY.below hWb) (hE.below hWb) ga ha hga hha
  have HF : Hid (Fit sn es ms) := F
  have HY : Hid (RY w g es) := hY
  have HE : Hid (RE w h ms) := hE
  have HGO : Hid (goes sn lo nx es ms count oldest = if okB sn lo nx es ms = true ∧ 0 ≤ count then gone es count oldest else 0) := rfl
  unfold ansE ansL
  obtain ⟨d, hd⟩ : ∃ d, goes sn lo nx es ms count oldest = d := ⟨_, rfl⟩
  rw [hd] at HGO
  simp only [hd]
  have hel := F.el
  obtain ⟨i0, hi, hz0, hz1, hz2⟩ := infoY
  clear hY hE F hd
  go_enter Try.func7, Try.ntmps7
  go_wp2_with (go_at_call 23; fail)
  refine hcopy.mono ?_
  rintro e w1 ⟨g1, c1, h1, c2, rfl, oe1, om1, _, hb1⟩
  have hsp := first_out sn lo nx es ms ga ha cg ch w w1 g1 c1 h1 c2 hb1 oe1 om1
  obtain ⟨X, hX⟩ : ∃ X, w1.alloc (.cells #[.string sn, .int .i64 lo, .int .i64 nx, .slice (some ⟨g1, 0, none⟩) es.length c1, .slice (some ⟨h1, 0, none⟩) ms.length c2] 27) = X := ⟨_, rfl⟩
  rw [hX] at hsp
  have HSP : Hid (SP w sn lo nx es ms ga ha cg ch w1.heap.size lo nx g1 c1 h1 c2 es X) := hsp
  have x0 : X.cell? ⟨w.heap.size, 0, none⟩ = some (.string sn) := bcell hsp.box rfl
  have x1 : X.cell? ⟨w.heap.size, 1, none⟩ = some (.int .i64 lo) := bcell hsp.box rfl
  have x2 : X.cell? ⟨w.heap.size, 2, none⟩ = some (.int .i64 nx) := bcell hsp.box rfl
  have x3 : X.cell? ⟨w.heap.size, 3, none⟩ = some (.slice ga es.length cg) := bcell hsp.box rfl
  have x4 : X.cell? ⟨w.heap.size, 4, none⟩ = some (.slice ha ms.length ch) := bcell hsp.box rfl
  have hok := sts.spec_ok sn lo nx es ms g h cg ch X HF.out (HY.out.below hsp.bel) (HE.out.below hsp.bel) ga ha hga.out.at hha.out.at
  have hc0 : decide (count < 0) = false ∨ decide (count < 0) = true := by cases decide (count < 0) <;> simp
  clear hcopy oe1 om1 hb1 hWb hsp
  by_cases hgo : okB sn lo nx es ms = true ∧ 0 ≤ count
  · obtain ⟨hob, hcn⟩ := hgo
    rw [hob] at hok
    have hd : d = gone es count oldest := by rw [HGO.out, if_pos ⟨hob, hcn⟩]
    have HOK : Hid (OkT sn lo nx es ms) := okB_true.1 hob
    have hnx := HOK.out.nx0
    have hlo := HOK.out.lo0
    have hel4 := HOK.out.el
    have hlen := HOK.out.len
    have HIFF : Hid (∀ (k : Nat) e, es[k]? = some e → ((count < ((es.length - k : Nat) : Int) ∨ e.t < oldest) ↔ k < d)) := fun k e he => hd ▸ goes_iff HOK.out.eu hcn he
    have hdl : d ≤ es.length := hd ▸ gone_le es count oldest
    have f0 : decide (count < 0) = false := by simp; omega
    clear hd HGO hc0
    go_wp2_with (go_at_call 16; fail)
    clear hX x0 x1 x2 x3 x4
    refine hok.mono ?_
    rintro e w2 ⟨rfl, hb2⟩
    have HS2 : Hid (SP w sn lo nx es ms ga ha cg ch w1.heap.size lo nx g1 c1 h1 c2 es w2) := HSP.out.on hb2
    clear hok HSP
    go_wp2
    go_loopw [18] (fun _ wr => ∃ (k gk ck : Nat), k ≤ d ∧ Hid (SP w sn lo nx es ms ga ha cg ch w1.heap.size (lo + k) nx gk ck h1 c2 (es.drop k) wr)) (fun _ wr => lenAt w1.heap.size wr)
    case atStart => exact ⟨0, g1, c1, Nat.zero_le _, by unfold Hid; rw [List.drop_zero]; simpa using HS2.out⟩
    case round =>
      obtain ⟨k, gk, ck, hk, hs⟩ := hrel
      have hso := hs.out
      have n3 : wr.cell? ⟨w1.heap.size, 3, none⟩ = some (.slice (some ⟨gk, 0, none⟩) (es.drop k).length ck) := bcell hso.out rfl
      rw [List.length_drop] at n3
      have n1 : wr.cell? ⟨w1.heap.size, 1, none⟩ = some (.int .i64 (lo + k)) := bcell hso.out rfl
      by_cases hkd : k < d
      · have hke : k < es.length := by omega
        have g0 : es[k]? = some es[k] := List.getElem?_eq_getElem hke
        have hit := HIFF.out k _ g0
        have hry := ry_owns hso.oe
        obtain ⟨a0, a1, a2⟩ := hry.2 0 es[k] (by rw [List.getElem?_drop, Nat.add_zero]; exact g0)
        obtain ⟨⟨eo, et, eb⟩, he⟩ : ∃ e, es[k] = e := ⟨_, rfl⟩
        rw [he] at a0 a1 a2 hit
        have hit : (count < ((es.length - k : Nat) : Int) ∨ et < oldest) ↔ k < d := hit
        have a1 : wr.cell? ⟨gk, 1, none⟩ = some (.int .i64 et) := by simpa using a1
        have i1 : IntKind.i64.wrap (lo + (k : Int) + 1) = lo + (k : Int) + 1 := by rw [IntKind.wrap_i64]; omega
        have q1 : (0 : Int) < ((es.length - k : Nat) : Int) := by omega
        have q1d : decide ((0 : Int) < ((es.length - k : Nat) : Int)) = true := decide_eq_true q1
        obtain ⟨m, hm⟩ : ∃ m, es.length - k = m + 1 := ⟨es.length - k - 1, by omega⟩
        have hck : m + 1 ≤ ck := by
          have := own_cap hso.oe
          rw [List.length_drop] at this
          omega
        have hdr : (es.drop k).drop 1 = es.drop (k + 1) := by rw [List.drop_drop]
        have hdrl : (es.drop (k + 1)).length = m := by rw [List.length_drop]; omega
        have HNW : Hid (∀ (j : Nat) (u : Value), ((es.drop (k + 1)).flatMap flY.c)[j]? = some u → wr.cell? ((⟨gk, 3, none⟩ : Addr).add j) = some u) := by
          have := news_drop hry
          rw [hdr] at this
          exact this
        have hsz := hso.size
        have hal : Below wr.heap.size wr (wr.alloc (.cells #[] 42)) := (Below.refl _ _).alloc (Nat.le_refl _) _
        have hempty := own_empty wr (w.heap.size + 2) 42 3 hsz
        have hcond := hit.2 hkd
        rw [hm] at n3 q1 q1d hcond hit
        have n3a : (wr.alloc (.cells #[] 42)).cell? ⟨w1.heap.size, 3, none⟩ = some (.slice (some ⟨gk, 0, none⟩) (m + 1) ck) := newcell hal n3
        have hmw : lenAt w1.heap.size wr = m + 1 := lenAt_eq n3
        have HMW : Hid (lenAt w1.heap.size wr = m + 1) := hmw
        clear hmw hit hso a0 a2 hry hdr
        by_cases hq : count < ((m + 1 : Nat) : Int)
        · have hqd : decide (count < ((m + 1 : Nat) : Int)) = true := decide_eq_true hq
          by_cases hck1 : ck = 1
          · obtain rfl : m = 0 := by omega
            subst hck1
            have hT := trim_sp (w3 := wr.alloc (.cells #[] 42)) (g3 := wr.heap.size) (c3 := 0) (l' := es.drop (k + 1)) hs.out ⟨rfl, rfl, rfl, Nat.le_refl _, fun _ _ _ => rfl⟩ (by rw [List.eq_nil_of_length_eq_zero hdrl]; exact hempty)
            rw [hdrl] at hT
            have HT : Hid (SP w sn lo nx es ms ga ha cg ch w1.heap.size (lo + k + 1) nx wr.heap.size 0 h1 c2 (es.drop (k + 1)) (((wr.alloc (.cells #[] 42)).setCell ⟨w1.heap.size, 3, none⟩ (.slice (some ⟨wr.heap.size, 0, none⟩) 0 0)).setCell ⟨w1.heap.size, 1, none⟩ (.int .i64 (lo + k + 1)))) := hT.2.2
            have k1 : (wr.alloc (.cells #[] 42)).cell? ⟨w1.heap.size, 1, none⟩ = some (.int .i64 (lo + k)) := hT.1.2
            have f3 : (wr.alloc (.cells #[] 42)).frozen? ⟨w1.heap.size, 3, none⟩ = false := hT.2.1.1
            have f1 : (wr.alloc (.cells #[] 42)).frozen? ⟨w1.heap.size, 1, none⟩ = false := hT.2.1.2
            have hm3 : lenAt w1.heap.size (((wr.alloc (.cells #[] 42)).setCell ⟨w1.heap.size, 3, none⟩ (.slice (some ⟨wr.heap.size, 0, none⟩) 0 0)).setCell ⟨w1.heap.size, 1, none⟩ (.int .i64 (lo + k + 1))) = 0 := by
              have := lenAt_eq (bcell HT.out.out rfl : _ = some (Value.slice (some ⟨wr.heap.size, 0, none⟩) (es.drop (k + 1)).length 0))
              rw [hdrl] at this
              exact this
            have HM3 : Hid (lenAt w1.heap.size (((wr.alloc (.cells #[] 42)).setCell ⟨w1.heap.size, 3, none⟩ (.slice (some ⟨wr.heap.size, 0, none⟩) 0 0)).setCell ⟨w1.heap.size, 1, none⟩ (.int .i64 (lo + k + 1))) = 0) := hm3
            clear hT hm3
            go_wp2
            try rw [← hqa]
            try rw [← hqh]
            go_roundw
            case rel => exact ⟨k + 1, wr.heap.size, 0, by omega, by unfold Hid; rw [show lo + ((k + 1 : Nat) : Int) = lo + k + 1 by omega]; exact HT.out⟩
            case measure => rw [HM3.out, HMW.out]; omega
          · obtain ⟨cc, hcc⟩ : ∃ cc, ck = cc + 2 := ⟨ck - 2, by omega⟩
            subst hcc
            have hqq : True := trivial
            go_wp2_with (at_builtin; refine wpList_append_own _ rfl _ _ 24 rfl (w.heap.size + 2) 42 i0 (.agg #[.int .i64 0, .int .i64 0, .string ByteArray.empty]) 3 32 Try.underlying24 hi hz0 hz1 hz2 rfl (by decide) _ 0 [] rfl (by exact hempty) ⟨gk, 3, none⟩ m (cc + 1) ((es.drop (k + 1)).flatMap flY.c) rfl (by rw [flat_len flY.c_len, hdrl]) (by exact fun j u hu => newcell hal (HNW.out j u hu)) (oneY _) (by unfold maxLen; omega) (by omega) (by simp; omega) ?_)
            intro v3 w3 hown3 hgrow3 hnil3
            obtain ⟨g3, c3, rfl, _, _⟩ := form hown3 (fun e => by first | exact hnil3 e | (have := hnil3.1 e; cases this.1))
            have hown3' : w3.ownsRow (w.heap.size + 2) 42 3 (.slice (some ⟨g3, 0, none⟩) (es.drop (k + 1)).length c3) (es.drop (k + 1)).length ((es.drop (k + 1)).flatMap flY.c) := by rw [hdrl]; simpa using hown3
            have hT := trim_sp hs.out hgrow3 hown3'
            rw [hdrl] at hT
            have HT : Hid (SP w sn lo nx es ms ga ha cg ch w1.heap.size (lo + k + 1) nx g3 c3 h1 c2 (es.drop (k + 1)) ((w3.setCell ⟨w1.heap.size, 3, none⟩ (.slice (some ⟨g3, 0, none⟩) m c3)).setCell ⟨w1.heap.size, 1, none⟩ (.int .i64 (lo + k + 1)))) := hT.2.2
            have k1 : w3.cell? ⟨w1.heap.size, 1, none⟩ = some (.int .i64 (lo + k)) := hT.1.2
            have k3 : ∃ v, w3.cell? ⟨w1.heap.size, 3, none⟩ = some v := ⟨_, hT.1.1⟩
            obtain ⟨v3, k3⟩ := k3
            have f3 : w3.frozen? ⟨w1.heap.size, 3, none⟩ = false := hT.2.1.1
            have f1 : w3.frozen? ⟨w1.heap.size, 1, none⟩ = false := hT.2.1.2
            have hm3 : lenAt w1.heap.size ((w3.setCell ⟨w1.heap.size, 3, none⟩ (.slice (some ⟨g3, 0, none⟩) m c3)).setCell ⟨w1.heap.size, 1, none⟩ (.int .i64 (lo + k + 1))) = m := by
              have := lenAt_eq (bcell HT.out.out rfl : _ = some (Value.slice (some ⟨g3, 0, none⟩) (es.drop (k + 1)).length c3))
              rw [hdrl] at this
              exact this
            have HM3 : Hid (lenAt w1.heap.size ((w3.setCell ⟨w1.heap.size, 3, none⟩ (.slice (some ⟨g3, 0, none⟩) m c3)).setCell ⟨w1.heap.size, 1, none⟩ (.int .i64 (lo + k + 1))) = m) := hm3
            clear hown3 hown3' hgrow3 hnil3 hT hm3
            go_wp2
            try rw [← hqa]
            try rw [← hqh]
            go_roundw
            case rel => exact ⟨k + 1, g3, c3, by omega, by unfold Hid; rw [show lo + ((k + 1 : Nat) : Int) = lo + k + 1 by omega]; exact HT.out⟩
            case measure => rw [HM3.out, HMW.out]; omega
        · have hqd : decide (count < ((m + 1 : Nat) : Int)) = false := decide_eq_false hq
          have hq2 : et < oldest := by omega
          have hq2d : decide (et < oldest) = true := decide_eq_true hq2
          by_cases hck1 : ck = 1
          · obtain rfl : m = 0 := by omega
            subst hck1
            have hT := trim_sp (w3 := wr.alloc (.cells #[] 42)) (g3 := wr.heap.size) (c3 := 0) (l' := es.drop (k + 1)) hs.out ⟨rfl, rfl, rfl, Nat.le_refl _, fun _ _ _ => rfl⟩ (by rw [List.eq_nil_of_length_eq_zero hdrl]; exact hempty)
            rw [hdrl] at hT
            have HT : Hid (SP w sn lo nx es ms ga ha cg ch w1.heap.size (lo + k + 1) nx wr.heap.size 0 h1 c2 (es.drop (k + 1)) (((wr.alloc (.cells #[] 42)).setCell ⟨w1.heap.size, 3, none⟩ (.slice (some ⟨wr.heap.size, 0, none⟩) 0 0)).setCell ⟨w1.heap.size, 1, none⟩ (.int .i64 (lo + k + 1)))) := hT.2.2
            have k1 : (wr.alloc (.cells #[] 42)).cell? ⟨w1.heap.size, 1, none⟩ = some (.int .i64 (lo + k)) := hT.1.2
            have f3 : (wr.alloc (.cells #[] 42)).frozen? ⟨w1.heap.size, 3, none⟩ = false := hT.2.1.1
            have f1 : (wr.alloc (.cells #[] 42)).frozen? ⟨w1.heap.size, 1, none⟩ = false := hT.2.1.2
            have hm3 : lenAt w1.heap.size (((wr.alloc (.cells #[] 42)).setCell ⟨w1.heap.size, 3, none⟩ (.slice (some ⟨wr.heap.size, 0, none⟩) 0 0)).setCell ⟨w1.heap.size, 1, none⟩ (.int .i64 (lo + k + 1))) = 0 := by
              have := lenAt_eq (bcell HT.out.out rfl : _ = some (Value.slice (some ⟨wr.heap.size, 0, none⟩) (es.drop (k + 1)).length 0))
              rw [hdrl] at this
              exact this
            have HM3 : Hid (lenAt w1.heap.size (((wr.alloc (.cells #[] 42)).setCell ⟨w1.heap.size, 3, none⟩ (.slice (some ⟨wr.heap.size, 0, none⟩) 0 0)).setCell ⟨w1.heap.size, 1, none⟩ (.int .i64 (lo + k + 1))) = 0) := hm3
            clear hT hm3
            go_wp2
            try rw [← hqa]
            try rw [← hqh]
            go_roundw
            case rel => exact ⟨k + 1, wr.heap.size, 0, by omega, by unfold Hid; rw [show lo + ((k + 1 : Nat) : Int) = lo + k + 1 by omega]; exact HT.out⟩
            case measure => rw [HM3.out, HMW.out]; omega
          · obtain ⟨cc, hcc⟩ : ∃ cc, ck = cc + 2 := ⟨ck - 2, by omega⟩
            subst hcc
            have hqq : True := trivial
            go_wp2_with (at_builtin; refine wpList_append_own _ rfl _ _ 24 rfl (w.heap.size + 2) 42 i0 (.agg #[.int .i64 0, .int .i64 0, .string ByteArray.empty]) 3 32 Try.underlying24 hi hz0 hz1 hz2 rfl (by decide) _ 0 [] rfl (by exact hempty) ⟨gk, 3, none⟩ m (cc + 1) ((es.drop (k + 1)).flatMap flY.c) rfl (by rw [flat_len flY.c_len, hdrl]) (by exact fun j u hu => newcell hal (HNW.out j u hu)) (oneY _) (by unfold maxLen; omega) (by omega) (by simp; omega) ?_)
            intro v3 w3 hown3 hgrow3 hnil3
            obtain ⟨g3, c3, rfl, _, _⟩ := form hown3 (fun e => by first | exact hnil3 e | (have := hnil3.1 e; cases this.1))
            have hown3' : w3.ownsRow (w.heap.size + 2) 42 3 (.slice (some ⟨g3, 0, none⟩) (es.drop (k + 1)).length c3) (es.drop (k + 1)).length ((es.drop (k + 1)).flatMap flY.c) := by rw [hdrl]; simpa using hown3
            have hT := trim_sp hs.out hgrow3 hown3'
            rw [hdrl] at hT
            have HT : Hid (SP w sn lo nx es ms ga ha cg ch w1.heap.size (lo + k + 1) nx g3 c3 h1 c2 (es.drop (k + 1)) ((w3.setCell ⟨w1.heap.size, 3, none⟩ (.slice (some ⟨g3, 0, none⟩) m c3)).setCell ⟨w1.heap.size, 1, none⟩ (.int .i64 (lo + k + 1)))) := hT.2.2
            have k1 : w3.cell? ⟨w1.heap.size, 1, none⟩ = some (.int .i64 (lo + k)) := hT.1.2
            have k3 : ∃ v, w3.cell? ⟨w1.heap.size, 3, none⟩ = some v := ⟨_, hT.1.1⟩
            obtain ⟨v3, k3⟩ := k3
            have f3 : w3.frozen? ⟨w1.heap.size, 3, none⟩ = false := hT.2.1.1
            have f1 : w3.frozen? ⟨w1.heap.size, 1, none⟩ = false := hT.2.1.2
            have hm3 : lenAt w1.heap.size ((w3.setCell ⟨w1.heap.size, 3, none⟩ (.slice (some ⟨g3, 0, none⟩) m c3)).setCell ⟨w1.heap.size, 1, none⟩ (.int .i64 (lo + k + 1))) = m := by
              have := lenAt_eq (bcell HT.out.out rfl : _ = some (Value.slice (some ⟨g3, 0, none⟩) (es.drop (k + 1)).length c3))
              rw [hdrl] at this
              exact this
            have HM3 : Hid (lenAt w1.heap.size ((w3.setCell ⟨w1.heap.size, 3, none⟩ (.slice (some ⟨g3, 0, none⟩) m c3)).setCell ⟨w1.heap.size, 1, none⟩ (.int .i64 (lo + k + 1))) = m) := hm3
            clear hown3 hown3' hgrow3 hnil3 hT hm3
            go_wp2
            try rw [← hqa]
            try rw [← hqh]
            go_roundw
            case rel => exact ⟨k + 1, g3, c3, by omega, by unfold Hid; rw [show lo + ((k + 1 : Nat) : Int) = lo + k + 1 by omega]; exact HT.out⟩
            case measure => rw [HM3.out, HMW.out]; omega
      · obtain rfl : k = d := by omega
        have HSK : Hid (SP w sn lo nx es ms ga ha cg ch w1.heap.size (lo + k) nx gk ck h1 c2 (es.drop k) wr) := hs
        have hlk : (es.drop k).length = es.length - k := List.length_drop
        have n0 : wr.cell? ⟨w1.heap.size, 0, none⟩ = some (.string sn) := bcell hso.out rfl
        have n2 : wr.cell? ⟨w1.heap.size, 2, none⟩ = some (.int .i64 nx) := bcell hso.out rfl
        have n4 : wr.cell? ⟨w1.heap.size, 4, none⟩ = some (.slice (some ⟨h1, 0, none⟩) ms.length c2) := bcell hso.out rfl
        have z0 : wr.cell? ⟨w.heap.size + 1, 0, none⟩ = some (.string ⟨#[]⟩) := bcell hso.res rfl
        have z1 : wr.cell? ⟨w.heap.size + 1, 1, none⟩ = some (.int .i64 0) := bcell hso.res rfl
        have z2 : wr.cell? ⟨w.heap.size + 1, 2, none⟩ = some (.int .i64 0) := bcell hso.res rfl
        have z3 : wr.cell? ⟨w.heap.size + 1, 3, none⟩ = some (.slice none 0 0) := bcell hso.res rfl
        have z4 : wr.cell? ⟨w.heap.size + 1, 4, none⟩ = some (.slice none 0 0) := bcell hso.res rfl
        have z0f := bfree hso.res 0
        have z1f := bfree hso.res 1
        have z2f := bfree hso.res 2
        have z3f := bfree hso.res 3
        have z4f := bfree hso.res 4
        have hry := ry_owns hso.oe
        clear hso
        have HLK : Hid ((es.drop k).length = es.length - k) := hlk
        clear hlk
        by_cases hz : es.length - k = 0
        · rw [hz] at n3
          have q1 : ¬ (0 : Int) < ((0 : Nat) : Int) := by omega
          clear hry
          go_wp2
          refine bodyPost_ret (v := .agg #[.string sn, .int .i64 (lo + k), .int .i64 nx, .slice (some ⟨gk, 0, none⟩) 0 ck, .slice (some ⟨h1, 0, none⟩) ms.length c2]) (by simp [results, Try.results7, go_sem, z0, z1, z2, z3, z4]) rfl ?_
          have hlz : (es.drop k).length = 0 := HLK.out.trans hz
          have r1 := fin_row (B := w.heap.size) (x0 := .string sn) (x1 := .int .i64 (lo + k)) (x2 := .int .i64 nx) (x3 := .slice (some ⟨gk, 0, none⟩) 0 ck) (x4 := .slice (some ⟨h1, 0, none⟩) ms.length c2) flY.c_len HSK.out.oe
          have r2 := fin_row (B := w.heap.size) (x0 := .string sn) (x1 := .int .i64 (lo + k)) (x2 := .int .i64 nx) (x3 := .slice (some ⟨gk, 0, none⟩) 0 ck) (x4 := .slice (some ⟨h1, 0, none⟩) ms.length c2) flK.c_len HSK.out.om
          have r3 := fin_below (x0 := .string sn) (x1 := .int .i64 (lo + k)) (x2 := .int .i64 nx) (x3 := .slice (some ⟨gk, 0, none⟩) 0 ck) (x4 := .slice (some ⟨h1, 0, none⟩) ms.length c2) HSK.out.bel (Nat.le_succ _)
          refine ⟨some ⟨gk, 0, none⟩, ck, some ⟨h1, 0, none⟩, c2, ?_, r1, r2, r3⟩
          first | rfl | rw [hlz] | (simp; omega) | (rw [← hlz]; simp) | exact ⟨some ⟨gk, 0, none⟩, ck, some ⟨h1, 0, none⟩, c2, by rw [hlz], r1, r2, r3⟩ | exact ⟨some ⟨gk, 0, none⟩, ck, some ⟨h1, 0, none⟩, ⟨c2, by first | rw [hlz] | rfl⟩, r1, r2, r3⟩ | exact ⟨some ⟨gk, 0, none⟩, some ⟨h1, 0, none⟩, ⟨ck, c2, by first | rw [hlz] | rfl⟩, r1, r2, r3⟩ | exact ⟨some ⟨gk, 0, none⟩, ⟨ck, some ⟨h1, 0, none⟩, ⟨c2, by first | rw [hlz] | rfl⟩, r1, r2, r3⟩⟩
        · have hke : k < es.length := by omega
          have g0 : es[k]? = some es[k] := List.getElem?_eq_getElem hke
          have hit := HIFF.out k _ g0
          obtain ⟨a0, a1, a2⟩ := hry.2 0 es[k] (by rw [List.getElem?_drop, Nat.add_zero]; exact g0)
          obtain ⟨⟨eo, et, eb⟩, he⟩ : ∃ e, es[k] = e := ⟨_, rfl⟩
          rw [he] at a0 a1 a2 hit
          have hit : (count < ((es.length - k : Nat) : Int) ∨ et < oldest) ↔ k < k := hit
          have a1 : wr.cell? ⟨gk, 1, none⟩ = some (.int .i64 et) := by simpa using a1
          obtain ⟨m, hm⟩ : ∃ m, es.length - k = m + 1 := ⟨es.length - k - 1, by omega⟩
          rw [hm] at n3 hit
          have q2 : ¬ count < ((m + 1 : Nat) : Int) := fun hh => by have := hit.1 (.inl hh); omega
          have q3 : ¬ et < oldest := fun hh => by have := hit.1 (.inr hh); omega
          have q1d : decide ((0 : Int) < ((m + 1 : Nat) : Int)) = true := decide_eq_true (by omega)
          have q2d : decide (count < ((m + 1 : Nat) : Int)) = false := decide_eq_false q2
          have q3d : decide (et < oldest) = false := decide_eq_false q3
          clear hry hit a0 a2 he g0
          go_wp2
          refine bodyPost_ret (v := .agg #[.string sn, .int .i64 (lo + k), .int .i64 nx, .slice (some ⟨gk, 0, none⟩) (m + 1) ck, .slice (some ⟨h1, 0, none⟩) ms.length c2]) (by simp [results, Try.results7, go_sem, z0, z1, z2, z3, z4]) rfl ⟨some ⟨gk, 0, none⟩, ck, some ⟨h1, 0, none⟩, c2, ?_, ?_, ?_, ?_⟩
          · first | rfl | rw [← hm] | (rw [← hm]; simp) | (simp; omega)
          · exact fin_row flY.c_len HSK.out.oe
          · exact fin_row flK.c_len HSK.out.om
          · exact fin_below HSK.out.bel (Nat.le_succ _)
  · obtain rfl : d = 0 := by rw [HGO.out, if_neg hgo]
    cases hob : okB sn lo nx es ms with
    | false =>
      rw [hob] at hok
      go_wp2_with (go_at_call 16; fail)
      clear hX x0 x1 x2 x3 x4
      refine hok.mono ?_
      rintro e w2 ⟨rfl, hb2⟩
      have hs2 := HSP.out.on hb2
      have HS2 : Hid (SP w sn lo nx es ms ga ha cg ch w1.heap.size lo nx g1 c1 h1 c2 es w2) := hs2
      have n0 : w2.cell? ⟨w1.heap.size, 0, none⟩ = some (.string sn) := bcell hs2.out rfl
      have n1 : w2.cell? ⟨w1.heap.size, 1, none⟩ = some (.int .i64 lo) := bcell hs2.out rfl
      have n2 : w2.cell? ⟨w1.heap.size, 2, none⟩ = some (.int .i64 nx) := bcell hs2.out rfl
      have n3 : w2.cell? ⟨w1.heap.size, 3, none⟩ = some (.slice (some ⟨g1, 0, none⟩) es.length c1) := bcell hs2.out rfl
      have n4 : w2.cell? ⟨w1.heap.size, 4, none⟩ = some (.slice (some ⟨h1, 0, none⟩) ms.length c2) := bcell hs2.out rfl
      have z0 : w2.cell? ⟨w.heap.size + 1, 0, none⟩ = some (.string ⟨#[]⟩) := bcell hs2.res rfl
      have z1 : w2.cell? ⟨w.heap.size + 1, 1, none⟩ = some (.int .i64 0) := bcell hs2.res rfl
      have z2 : w2.cell? ⟨w.heap.size + 1, 2, none⟩ = some (.int .i64 0) := bcell hs2.res rfl
      have z3 : w2.cell? ⟨w.heap.size + 1, 3, none⟩ = some (.slice none 0 0) := bcell hs2.res rfl
      have z4 : w2.cell? ⟨w.heap.size + 1, 4, none⟩ = some (.slice none 0 0) := bcell hs2.res rfl
      have z0f := bfree hs2.res 0
      have z1f := bfree hs2.res 1
      have z2f := bfree hs2.res 2
      have z3f := bfree hs2.res 3
      have z4f := bfree hs2.res 4
      clear hok hs2 HSP
      go_wp2
      refine bodyPost_ret (v := .agg #[.string sn, .int .i64 lo, .int .i64 nx, .slice (some ⟨g1, 0, none⟩) es.length c1, .slice (some ⟨h1, 0, none⟩) ms.length c2]) (by simp [results, Try.results7, go_sem, z0, z1, z2, z3, z4]) rfl ⟨some ⟨g1, 0, none⟩, c1, some ⟨h1, 0, none⟩, c2, by simp, ?_, ?_, ?_⟩
      · rw [List.drop_zero]; exact fin_row flY.c_len HS2.out.oe
      · exact fin_row flK.c_len HS2.out.om
      · exact fin_below HS2.out.bel (Nat.le_succ _)
    | true =>
      rw [hob] at hok
      have f0 : decide (count < 0) = true := by simp; exact Int.not_le.1 (fun hh => hgo ⟨hob, hh⟩)
      go_wp2_with (go_at_call 16; fail)
      clear hX x0 x1 x2 x3 x4
      refine hok.mono ?_
      rintro e w2 ⟨rfl, hb2⟩
      have hs2 := HSP.out.on hb2
      have HS2 : Hid (SP w sn lo nx es ms ga ha cg ch w1.heap.size lo nx g1 c1 h1 c2 es w2) := hs2
      have n0 : w2.cell? ⟨w1.heap.size, 0, none⟩ = some (.string sn) := bcell hs2.out rfl
      have n1 : w2.cell? ⟨w1.heap.size, 1, none⟩ = some (.int .i64 lo) := bcell hs2.out rfl
      have n2 : w2.cell? ⟨w1.heap.size, 2, none⟩ = some (.int .i64 nx) := bcell hs2.out rfl
      have n3 : w2.cell? ⟨w1.heap.size, 3, none⟩ = some (.slice (some ⟨g1, 0, none⟩) es.length c1) := bcell hs2.out rfl
      have n4 : w2.cell? ⟨w1.heap.size, 4, none⟩ = some (.slice (some ⟨h1, 0, none⟩) ms.length c2) := bcell hs2.out rfl
      have z0 : w2.cell? ⟨w.heap.size + 1, 0, none⟩ = some (.string ⟨#[]⟩) := bcell hs2.res rfl
      have z1 : w2.cell? ⟨w.heap.size + 1, 1, none⟩ = some (.int .i64 0) := bcell hs2.res rfl
      have z2 : w2.cell? ⟨w.heap.size + 1, 2, none⟩ = some (.int .i64 0) := bcell hs2.res rfl
      have z3 : w2.cell? ⟨w.heap.size + 1, 3, none⟩ = some (.slice none 0 0) := bcell hs2.res rfl
      have z4 : w2.cell? ⟨w.heap.size + 1, 4, none⟩ = some (.slice none 0 0) := bcell hs2.res rfl
      have z0f := bfree hs2.res 0
      have z1f := bfree hs2.res 1
      have z2f := bfree hs2.res 2
      have z3f := bfree hs2.res 3
      have z4f := bfree hs2.res 4
      clear hok hs2 HSP
      go_wp2
      refine bodyPost_ret (v := .agg #[.string sn, .int .i64 lo, .int .i64 nx, .slice (some ⟨g1, 0, none⟩) es.length c1, .slice (some ⟨h1, 0, none⟩) ms.length c2]) (by simp [results, Try.results7, go_sem, z0, z1, z2, z3, z4]) rfl ⟨some ⟨g1, 0, none⟩, c1, some ⟨h1, 0, none⟩, c2, by simp, ?_, ?_, ?_⟩
      · rw [List.drop_zero]; exact fin_row flY.c_len HS2.out.oe
      · exact fin_row flK.c_len HS2.out.om
      · exact fin_below HS2.out.bel (Nat.le_succ _)
end Go.Proofs.Ytlfhfcgcfggjcaa.strm
