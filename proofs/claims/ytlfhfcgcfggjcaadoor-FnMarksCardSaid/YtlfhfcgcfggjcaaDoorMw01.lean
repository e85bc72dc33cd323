/- StreamMarked, the specification's and the program's: the offset of the first mark of a reader, 0 where there is none; new memory alone. -/
import Derived.Test.YtlfhfcgcfggjcaaDoorStreamWay
import Derived.Test.YtlfhfcgcfggjcaaDoorStreamSeekWalks
import Derived.Test.YtlfhfcgcfggjcaaDoorDrawBytes
import Derived.Test.YtlfhfcgcfggjcaaDoorStreamMarkSpec
import Derived.Test.YtlfhfcgcfggjcaaDoorStreamPutSpec
import Derived.Test.YtlfhfcgcfggjcaaDoorStreamRows

/- The specification's StreamTrim: the stream without its oldest entries; new memory alone. -/
namespace Go.Proofs.YtlfhfcgcfggjcaaDoor.strm
open Go.ChangeShapes Go.WideShapes Go.ChangeAt Go.RowKit Go.Proofs.YtlfhfcgcfggjcaaDoor.fl Go.Proofs.YtlfhfcgcfggjcaaDoor.fo Go.Proofs.YtlfhfcgcfggjcaaDoor.rr Go.Proofs.YtlfhfcgcfggjcaaDoor.st Go.Proofs.YtlfhfcgcfggjcaaDoor.srd Go.Proofs.YtlfhfcgcfggjcaaDoor.scp Go.Proofs.YtlfhfcgcfggjcaaDoor.spw
set_option linter.unusedVariables false

/-- how many entries go -/
def gone (es : List flY.En) (count oldest : Int) : Nat := max (es.length - count.toNat) (ssk.first es oldest)
noncomputable def goes (sn : ByteArray) (lo nx : Int) (es : List flY.En) (ms : List Ex) (count oldest : Int) : Nat := if okB sn lo nx es ms = true ∧ 0 ≤ count then gone es count oldest else 0
noncomputable def ansE (sn : ByteArray) (lo nx : Int) (es : List flY.En) (ms : List Ex) (count oldest : Int) : List flY.En := es.drop (goes sn lo nx es ms count oldest)
noncomputable def ansL (sn : ByteArray) (lo nx : Int) (es : List flY.En) (ms : List Ex) (count oldest : Int) : Int := lo + goes sn lo nx es ms count oldest
theorem gone_le (es : List flY.En) (count oldest : Int) : gone es count oldest ≤ es.length := by
  have := ssk.first_le es oldest
  unfold gone
  omega
theorem first_ahead {t : Int} : ∀ (l : List flY.En) (i : Nat) (a : flY.En), i < ssk.first l t → l[i]? = some a → a.t < t
  | [], i, a, h, _ => by simp [ssk.first] at h
  | e :: r, 0, a, h, ha => by
    simp at ha
    subst ha
    by_cases hq : t ≤ e.t
    · simp [ssk.first, hq] at h
    · omega
  | e :: r, i + 1, a, h, ha => by
    by_cases hq : t ≤ e.t
    · simp [ssk.first, hq] at h
    · simp only [ssk.first, hq, if_false] at h
      exact first_ahead r i a (by omega) (by simpa using ha)
theorem first_at {t : Int} : ∀ (l : List flY.En) (a : flY.En), l[ssk.first l t]? = some a → t ≤ a.t
  | [], a, h => by simp at h
  | e :: r, a, h => by
    by_cases hq : t ≤ e.t
    · simp [ssk.first, hq] at h
      subst h
      exact hq
    · simp only [ssk.first, hq, if_false] at h
      exact first_at r a (by simpa using h)
/-- whether one more goes -/
theorem goes_iff {es : List flY.En} {count oldest : Int} {k : Nat} {e : flY.En} (hS : ∀ (i : Nat) a b, es[i]? = some a → es[i + 1]? = some b → a.t ≤ b.t) (hc : 0 ≤ count) (he : es[k]? = some e) : (count < ((es.length - k : Nat) : Int) ∨ e.t < oldest) ↔ k < gone es count oldest := by
  have hk := (List.getElem?_eq_some_iff.1 he).1
  have h1 : e.t < oldest ↔ k < ssk.first es oldest := by
    constructor
    · intro h
      by_cases hq : k < ssk.first es oldest
      · exact hq
      · have hfl : ssk.first es oldest < es.length := by omega
        have hf : es[ssk.first es oldest]? = some es[ssk.first es oldest] := List.getElem?_eq_getElem hfl
        have h2 := first_at es _ hf
        have h3 := ssk.sorted hS (k - ssk.first es oldest) (ssk.first es oldest) _ e hf (by rw [show ssk.first es oldest + (k - ssk.first es oldest) = k by omega]; exact he)
        omega
    · intro h
      exact first_ahead es k e h he
  rw [h1]
  unfold gone
  omega

def lenAt (n8 : Nat) (w : World) : Nat := match w.cell? ⟨n8, 3, none⟩ with | some (.slice _ n _) => n | _ => 0
theorem lenAt_eq {n8 n c : Nat} {a : Option Addr} {w : World} (h : w.cell? ⟨n8, 3, none⟩ = some (.slice a n c)) : lenAt n8 w = n := by unfold lenAt; rw [h]
theorem own_cap {w : World} {B n s g c : Nat} {U : TypeId} {xs : List Value} (h : w.ownsRow B U s (.slice (some ⟨g, 0, none⟩) n c) n xs) : n ≤ c := by
  obtain ⟨_, ⟨h1, _⟩ | ⟨g', cap', cur, h1, h2, h3, h4, _⟩⟩ := h
  · cases h1
  cases h1
  exact h4
set_option maxRecDepth 100000 in
theorem trim_sp {w : World} {sn : ByteArray} {lo nx : Int} {es : List flY.En} {ms : List Ex} {g h : Option Addr} {cg ch : Nat} {n8 g1 c1 h1 c2 g3 c3 : Nat} {lv nv : Int} {l l' : List flY.En} {X w3 : World} (hs : SP w sn lo nx es ms g h cg ch n8 lv nv g1 c1 h1 c2 l X) (hg : (X.alloc (.cells #[] 43)).grownBy w3 (some X.heap.size))
    (ho : w3.ownsRow (w.heap.size + 2) 43 3 (.slice (some ⟨g3, 0, none⟩) l'.length c3) l'.length (l'.flatMap flY.c)) :
    (w3.cell? ⟨n8, 3, none⟩ = some (.slice (some ⟨g1, 0, none⟩) l.length c1) ∧ w3.cell? ⟨n8, 1, none⟩ = some (.int .i64 lv)) ∧ (w3.frozen? ⟨n8, 3, none⟩ = false ∧ w3.frozen? ⟨n8, 1, none⟩ = false) ∧
    SP w sn lo nx es ms g h cg ch n8 (lv + 1) nv g3 c3 h1 c2 l' ((w3.setCell ⟨n8, 3, none⟩ (.slice (some ⟨g3, 0, none⟩) l'.length c3)).setCell ⟨n8, 1, none⟩ (.int .i64 (lv + 1))) := by
  have h8 := hs.h8
  have hal : Below X.heap.size X (X.alloc (.cells #[] 43)) := (Below.refl _ _).alloc (Nat.le_refl _) _
  have hX := hs.on hal
  have l1 := (Array.getElem?_eq_some_iff.1 hs.box).1
  have l2 := (Array.getElem?_eq_some_iff.1 hs.res).1
  have l3 := (Array.getElem?_eq_some_iff.1 hs.out).1
  have b1 := grown_at hg hX.box (by simp; omega)
  have b2 := grown_at hg hX.res (by simp; omega)
  have b3 := grown_at hg hX.out (by simp; omega)
  obtain ⟨hh1, cur, hcur⟩ := owns_at hs.om
  have l4 := (Array.getElem?_eq_some_iff.1 hcur).1
  have hm := hX.om.kept hg (.inr (by simp [Value.ownBlock]; omega))
  have hbel : Below w.heap.size w w3 := hX.bel.grown hg hX.bel.size (fun k hk => by cases hk; have := hs.size; omega)
  have hm8 := owns_ne (by decide) hm b3
  have hg8 := owns_ne (by decide) ho b3
  exact ⟨⟨bcell b3 rfl, bcell b3 rfl⟩, ⟨bfree b3 3, bfree b3 1⟩, (hbel.setCell (by show w.heap.size ≤ n8; omega) _).setCell (by show w.heap.size ≤ n8; omega) _, boff (boff b1 _ _ _ (by omega)) _ _ _ (by omega), boff (boff b2 _ _ _ (by omega)) _ _ _ (by omega), bset (bset b3 3 _) 1 _, owns_set (owns_set ho hg8 _) hg8 _, owns_set (owns_set hm hm8 _) hm8 _, h8⟩
theorem news_drop {w : World} {g : Nat} {es : List flY.En} (hr : RY w g es) : ∀ (j : Nat) (u : Value), ((es.drop 1).flatMap flY.c)[j]? = some u → w.cell? ((⟨g, 3, none⟩ : Addr).add j) = some u := fun j u hu => by
  obtain ⟨i, e, r, h1, h2, rfl⟩ := flat_get flY.c_len (es.drop 1) j u hu
  rw [List.getElem?_drop] at h1
  rw [add_at, show 3 + (i * 3 + r) = (1 + i) * 3 + r by omega]
  obtain ⟨a0, a1, a2⟩ := hr.2 (1 + i) e h1
  match r, h2 with
  | 0, h2 => cases h2; exact a0
  | 1, h2 => cases h2; exact a1
  | 2, h2 => cases h2; exact a2
  | r + 3, h2 => simp [flY.c] at h2

theorem newcell {w w' : World} {p : Addr} {u : Value} (hb : Below w.heap.size w w') (h : w.cell? p = some u) : w'.cell? p = some u := (hb.cell (block_lt_of_cell h)).trans h

set_option maxRecDepth 100000 in
set_option maxHeartbeats 4000000 in
theorem spec_trim (sn : ByteArray) (lo nx : Int) (es : List flY.En) (ms : List Ex) (g h cg ch : Nat) (count oldest : Int) (w : World) (F : Fit sn es ms) (hY : RY w g es) (hE : RE w h ms) (ga ha : Option Addr) (hga : Hid (apo.NA ga g es.length cg)) (hha : Hid (apo.NA ha h ms.length ch)) :
    Calls Tryd.prog 39 #[.agg #[.string sn, .int .i64 lo, .int .i64 nx, .slice ga es.length cg, .slice ha ms.length ch], .int .i64 count, .int .i64 oldest] w fun e w' => ∃ sa ce sb cb, e = .returned (.agg #[.string sn, .int .i64 (ansL sn lo nx es ms count oldest), .int .i64 nx, .slice sa (ansE sn lo nx es ms count oldest).length ce, .slice sb ms.length cb]) ∧ OR flY.c 3 43 w' w.heap.size sa ce (ansE sn lo nx es ms count oldest) ∧ OR flK.c 2 45 w' w.heap.size sb cb ms ∧ Below w.heap.size w w' := by
  have hWb : Below w.heap.size w ((w.alloc (.cells #[.string sn, .int .i64 lo, .int .i64 nx, .slice ga es.length cg, .slice ha ms.length ch] 27)).alloc (.cells #[.string ⟨#[]⟩, .int .i64 0, .int .i64 0, .slice none 0 0, .slice none 0 0] 27)) := ((Below.refl _ _).alloc (Nat.le_refl _) _).alloc (by simp) _
  have hcopy := spec_copy sn lo nx es ms g h cg ch ((w.alloc (.cells #[.string sn, .int .i64 lo, .int .i64 nx, .slice ga es.length cg, .slice ha ms.length ch] 27)).alloc (.cells #[.string ⟨#[]⟩, .int .i64 0, .int .i64 0, .slice none 0 0, .slice none 0 0] 27)) F (hY.below hWb) (hE.below hWb) ga ha hga hha
  have HF : Hid (Fit sn es ms) := F
  have HY : Hid (RY w g es) := hY
  have HE : Hid (RE w h ms) := hE
  have HGO : Hid (goes sn lo nx es ms count oldest = if okB sn lo nx es ms = true ∧ 0 ≤ count then gone es count oldest else 0) := rfl
  unfold ansE ansL
  obtain ⟨d, hd⟩ : ∃ d, goes sn lo nx es ms count oldest = d := ⟨_, rfl⟩
  rw [hd] at HGO
  simp only [hd]
  have hel := F.el
  obtain ⟨i0, hi, hz0, hz1, hz2⟩ := infoY
  clear hY hE F hd
  go_enter Tryd.func39, Tryd.ntmps39
  go_wp2_with (go_at_call 29; fail)
  refine hcopy.mono ?_
  rintro e w1 ⟨g1, c1, h1, c2, rfl, oe1, om1, _, hb1⟩
  have hsp := first_out sn lo nx es ms ga ha cg ch w w1 g1 c1 h1 c2 hb1 oe1 om1
  obtain ⟨X, hX⟩ : ∃ X, w1.alloc (.cells #[.string sn, .int .i64 lo, .int .i64 nx, .slice (some ⟨g1, 0, none⟩) es.length c1, .slice (some ⟨h1, 0, none⟩) ms.length c2] 27) = X := ⟨_, rfl⟩
  rw [hX] at hsp
  have HSP : Hid (SP w sn lo nx es ms ga ha cg ch w1.heap.size lo nx g1 c1 h1 c2 es X) := hsp
  have x0 : X.cell? ⟨w.heap.size, 0, none⟩ = some (.string sn) := bcell hsp.box rfl
  have x1 : X.cell? ⟨w.heap.size, 1, none⟩ = some (.int .i64 lo) := bcell hsp.box rfl
  have x2 : X.cell? ⟨w.heap.size, 2, none⟩ = some (.int .i64 nx) := bcell hsp.box rfl
  have x3 : X.cell? ⟨w.heap.size, 3, none⟩ = some (.slice ga es.length cg) := bcell hsp.box rfl
  have x4 : X.cell? ⟨w.heap.size, 4, none⟩ = some (.slice ha ms.length ch) := bcell hsp.box rfl
  have hok := sts.spec_ok sn lo nx es ms g h cg ch X HF.out (HY.out.below hsp.bel) (HE.out.below hsp.bel) ga ha hga.out.at hha.out.at
  have hc0 : decide (count < 0) = false ∨ decide (count < 0) = true := by cases decide (count < 0) <;> simp
  clear hcopy oe1 om1 hb1 hWb hsp
  by_cases hgo : okB sn lo nx es ms = true ∧ 0 ≤ count
  · obtain ⟨hob, hcn⟩ := hgo
    rw [hob] at hok
    have hd : d = gone es count oldest := by rw [HGO.out, if_pos ⟨hob, hcn⟩]
    have HOK : Hid (OkT sn lo nx es ms) := okB_true.1 hob
    have hnx := HOK.out.nx0
    have hlo := HOK.out.lo0
    have hel4 := HOK.out.el
    have hlen := HOK.out.len
    have HIFF : Hid (∀ (k : Nat) e, es[k]? = some e → ((count < ((es.length - k : Nat) : Int) ∨ e.t < oldest) ↔ k < d)) := fun k e he => hd ▸ goes_iff HOK.out.eu hcn he
    have hdl : d ≤ es.length := hd ▸ gone_le es count oldest
    have f0 : decide (count < 0) = false := by simp; omega
    clear hd HGO hc0
    go_wp2_with (go_at_call 30; fail)
    clear hX x0 x1 x2 x3 x4
    refine hok.mono ?_
    rintro e w2 ⟨rfl, hb2⟩
    have HS2 : Hid (SP w sn lo nx es ms ga ha cg ch w1.heap.size lo nx g1 c1 h1 c2 es w2) := HSP.out.on hb2
    clear hok HSP
    go_wp2
    go_loopw [18] (fun _ wr => ∃ (k gk ck : Nat), k ≤ d ∧ Hid (SP w sn lo nx es ms ga ha cg ch w1.heap.size (lo + k) nx gk ck h1 c2 (es.drop k) wr)) (fun _ wr => lenAt w1.heap.size wr)
    case atStart => exact ⟨0, g1, c1, Nat.zero_le _, by unfold Hid; rw [List.drop_zero]; simpa using HS2.out⟩
    case round =>
      obtain ⟨k, gk, ck, hk, hs⟩ := hrel
      have hso := hs.out
      have n3 : wr.cell? ⟨w1.heap.size, 3, none⟩ = some (.slice (some ⟨gk, 0, none⟩) (es.drop k).length ck) := bcell hso.out rfl
      rw [List.length_drop] at n3
      have n1 : wr.cell? ⟨w1.heap.size, 1, none⟩ = some (.int .i64 (lo + k)) := bcell hso.out rfl
      by_cases hkd : k < d
      · have hke : k < es.length := by omega
        have g0 : es[k]? = some es[k] := List.getElem?_eq_getElem hke
        have hit := HIFF.out k _ g0
        have hry := ry_owns hso.oe
        obtain ⟨a0, a1, a2⟩ := hry.2 0 es[k] (by rw [List.getElem?_drop, Nat.add_zero]; exact g0)
        obtain ⟨⟨eo, et, eb⟩, he⟩ : ∃ e, es[k] = e := ⟨_, rfl⟩
        rw [he] at a0 a1 a2 hit
        have hit : (count < ((es.length - k : Nat) : Int) ∨ et < oldest) ↔ k < d := hit
        have a1 : wr.cell? ⟨gk, 1, none⟩ = some (.int .i64 et) := by simpa using a1
        have i1 : IntKind.i64.wrap (lo + (k : Int) + 1) = lo + (k : Int) + 1 := by rw [IntKind.wrap_i64]; omega
        have q1 : (0 : Int) < ((es.length - k : Nat) : Int) := by omega
        have q1d : decide ((0 : Int) < ((es.length - k : Nat) : Int)) = true := decide_eq_true q1
        obtain ⟨m, hm⟩ : ∃ m, es.length - k = m + 1 := ⟨es.length - k - 1, by omega⟩
        have hck : m + 1 ≤ ck := by
          have := own_cap hso.oe
          rw [List.length_drop] at this
          omega
        have hdr : (es.drop k).drop 1 = es.drop (k + 1) := by rw [List.drop_drop]
        have hdrl : (es.drop (k + 1)).length = m := by rw [List.length_drop]; omega
        have HNW : Hid (∀ (j : Nat) (u : Value), ((es.drop (k + 1)).flatMap flY.c)[j]? = some u → wr.cell? ((⟨gk, 3, none⟩ : Addr).add j) = some u) := by
          have := news_drop hry
          rw [hdr] at this
          exact this
        have hsz := hso.size
        have hal : Below wr.heap.size wr (wr.alloc (.cells #[] 43)) := (Below.refl _ _).alloc (Nat.le_refl _) _
        have hempty := own_empty wr (w.heap.size + 2) 43 3 hsz
        have hcond := hit.2 hkd
        rw [hm] at n3 q1 q1d hcond hit
        have n3a : (wr.alloc (.cells #[] 43)).cell? ⟨w1.heap.size, 3, none⟩ = some (.slice (some ⟨gk, 0, none⟩) (m + 1) ck) := newcell hal n3
        have hmw : lenAt w1.heap.size wr = m + 1 := lenAt_eq n3
        have HMW : Hid (lenAt w1.heap.size wr = m + 1) := hmw
        clear hmw hit hso a0 a2 hry hdr
        by_cases hq : count < ((m + 1 : Nat) : Int)
        · have hqd : decide (count < ((m + 1 : Nat) : Int)) = true := decide_eq_true hq
          by_cases hck1 : ck = 1
          · obtain rfl : m = 0 := by omega
            subst hck1
            have hT := trim_sp (w3 := wr.alloc (.cells #[] 43)) (g3 := wr.heap.size) (c3 := 0) (l' := es.drop (k + 1)) hs.out ⟨rfl, rfl, rfl, Nat.le_refl _, fun _ _ _ => rfl⟩ (by rw [List.eq_nil_of_length_eq_zero hdrl]; exact hempty)
            rw [hdrl] at hT
            have HT : Hid (SP w sn lo nx es ms ga ha cg ch w1.heap.size (lo + k + 1) nx wr.heap.size 0 h1 c2 (es.drop (k + 1)) (((wr.alloc (.cells #[] 43)).setCell ⟨w1.heap.size, 3, none⟩ (.slice (some ⟨wr.heap.size, 0, none⟩) 0 0)).setCell ⟨w1.heap.size, 1, none⟩ (.int .i64 (lo + k + 1)))) := hT.2.2
            have k1 : (wr.alloc (.cells #[] 43)).cell? ⟨w1.heap.size, 1, none⟩ = some (.int .i64 (lo + k)) := hT.1.2
            have f3 : (wr.alloc (.cells #[] 43)).frozen? ⟨w1.heap.size, 3, none⟩ = false := hT.2.1.1
            have f1 : (wr.alloc (.cells #[] 43)).frozen? ⟨w1.heap.size, 1, none⟩ = false := hT.2.1.2
            have hm3 : lenAt w1.heap.size (((wr.alloc (.cells #[] 43)).setCell ⟨w1.heap.size, 3, none⟩ (.slice (some ⟨wr.heap.size, 0, none⟩) 0 0)).setCell ⟨w1.heap.size, 1, none⟩ (.int .i64 (lo + k + 1))) = 0 := by
              have := lenAt_eq (bcell HT.out.out rfl : _ = some (Value.slice (some ⟨wr.heap.size, 0, none⟩) (es.drop (k + 1)).length 0))
              rw [hdrl] at this
              exact this
            have HM3 : Hid (lenAt w1.heap.size (((wr.alloc (.cells #[] 43)).setCell ⟨w1.heap.size, 3, none⟩ (.slice (some ⟨wr.heap.size, 0, none⟩) 0 0)).setCell ⟨w1.heap.size, 1, none⟩ (.int .i64 (lo + k + 1))) = 0) := hm3
            clear hT hm3
            go_wp2
            try rw [← hqa]
            try rw [← hqh]
            go_roundw
            case rel => exact ⟨k + 1, wr.heap.size, 0, by omega, by unfold Hid; rw [show lo + ((k + 1 : Nat) : Int) = lo + k + 1 by omega]; exact HT.out⟩
            case measure => rw [HM3.out, HMW.out]; omega
          · obtain ⟨cc, hcc⟩ : ∃ cc, ck = cc + 2 := ⟨ck - 2, by omega⟩
            subst hcc
            have hqq : True := trivial
            go_wp2_with (at_builtin; refine wpList_append_own _ rfl _ _ 24 rfl (w.heap.size + 2) 43 i0 (.agg #[.int .i64 0, .int .i64 0, .string ByteArray.empty]) 3 32 Tryd.underlying24 hi hz0 hz1 hz2 rfl (by decide) _ 0 [] rfl (by exact hempty) ⟨gk, 3, none⟩ m (cc + 1) ((es.drop (k + 1)).flatMap flY.c) rfl (by rw [flat_len flY.c_len, hdrl]) (by exact fun j u hu => newcell hal (HNW.out j u hu)) (oneY _) (by unfold maxLen; omega) (by omega) (by simp; omega) ?_)
            intro v3 w3 hown3 hgrow3 hnil3
            obtain ⟨g3, c3, rfl, _, _⟩ := form hown3 (fun e => by first | exact hnil3 e | (have := hnil3.1 e; cases this.1))
            have hown3' : w3.ownsRow (w.heap.size + 2) 43 3 (.slice (some ⟨g3, 0, none⟩) (es.drop (k + 1)).length c3) (es.drop (k + 1)).length ((es.drop (k + 1)).flatMap flY.c) := by rw [hdrl]; simpa using hown3
            have hT := trim_sp hs.out hgrow3 hown3'
            rw [hdrl] at hT
            have HT : Hid (SP w sn lo nx es ms ga ha cg ch w1.heap.size (lo + k + 1) nx g3 c3 h1 c2 (es.drop (k + 1)) ((w3.setCell ⟨w1.heap.size, 3, none⟩ (.slice (some ⟨g3, 0, none⟩) m c3)).setCell ⟨w1.heap.size, 1, none⟩ (.int .i64 (lo + k + 1)))) := hT.2.2
            have k1 : w3.cell? ⟨w1.heap.size, 1, none⟩ = some (.int .i64 (lo + k)) := hT.1.2
            have k3 : ∃ v, w3.cell? ⟨w1.heap.size, 3, none⟩ = some v := ⟨_, hT.1.1⟩
            obtain ⟨v3, k3⟩ := k3
            have f3 : w3.frozen? ⟨w1.heap.size, 3, none⟩ = false := hT.2.1.1
            have f1 : w3.frozen? ⟨w1.heap.size, 1, none⟩ = false := hT.2.1.2
            have hm3 : lenAt w1.heap.size ((w3.setCell ⟨w1.heap.size, 3, none⟩ (.slice (some ⟨g3, 0, none⟩) m c3)).setCell ⟨w1.heap.size, 1, none⟩ (.int .i64 (lo + k + 1))) = m := by
              have := lenAt_eq (bcell HT.out.out rfl : _ = some (Value.slice (some ⟨g3, 0, none⟩) (es.drop (k + 1)).length c3))
              rw [hdrl] at this
              exact this
            have HM3 : Hid (lenAt w1.heap.size ((w3.setCell ⟨w1.heap.size, 3, none⟩ (.slice (some ⟨g3, 0, none⟩) m c3)).setCell ⟨w1.heap.size, 1, none⟩ (.int .i64 (lo + k + 1))) = m) := hm3
            clear hown3 hown3' hgrow3 hnil3 hT hm3
            go_wp2
            try rw [← hqa]
            try rw [← hqh]
            go_roundw
            case rel => exact ⟨k + 1, g3, c3, by omega, by unfold Hid; rw [show lo + ((k + 1 : Nat) : Int) = lo + k + 1 by omega]; exact HT.out⟩
            case measure => rw [HM3.out, HMW.out]; omega
        · have hqd : decide (count < ((m + 1 : Nat) : Int)) = false := decide_eq_false hq
          have hq2 : et < oldest := by omega
          have hq2d : decide (et < oldest) = true := decide_eq_true hq2
          by_cases hck1 : ck = 1
          · obtain rfl : m = 0 := by omega
            subst hck1
            have hT := trim_sp (w3 := wr.alloc (.cells #[] 43)) (g3 := wr.heap.size) (c3 := 0) (l' := es.drop (k + 1)) hs.out ⟨rfl, rfl, rfl, Nat.le_refl _, fun _ _ _ => rfl⟩ (by rw [List.eq_nil_of_length_eq_zero hdrl]; exact hempty)
            rw [hdrl] at hT
            have HT : Hid (SP w sn lo nx es ms ga ha cg ch w1.heap.size (lo + k + 1) nx wr.heap.size 0 h1 c2 (es.drop (k + 1)) (((wr.alloc (.cells #[] 43)).setCell ⟨w1.heap.size, 3, none⟩ (.slice (some ⟨wr.heap.size, 0, none⟩) 0 0)).setCell ⟨w1.heap.size, 1, none⟩ (.int .i64 (lo + k + 1)))) := hT.2.2
            have k1 : (wr.alloc (.cells #[] 43)).cell? ⟨w1.heap.size, 1, none⟩ = some (.int .i64 (lo + k)) := hT.1.2
            have f3 : (wr.alloc (.cells #[] 43)).frozen? ⟨w1.heap.size, 3, none⟩ = false := hT.2.1.1
            have f1 : (wr.alloc (.cells #[] 43)).frozen? ⟨w1.heap.size, 1, none⟩ = false := hT.2.1.2
            have hm3 : lenAt w1.heap.size (((wr.alloc (.cells #[] 43)).setCell ⟨w1.heap.size, 3, none⟩ (.slice (some ⟨wr.heap.size, 0, none⟩) 0 0)).setCell ⟨w1.heap.size, 1, none⟩ (.int .i64 (lo + k + 1))) = 0 := by
              have := lenAt_eq (bcell HT.out.out rfl : _ = some (Value.slice (some ⟨wr.heap.size, 0, none⟩) (es.drop (k + 1)).length 0))
              rw [hdrl] at this
              exact this
            have HM3 : Hid (lenAt w1.heap.size (((wr.alloc (.cells #[] 43)).setCell ⟨w1.heap.size, 3, none⟩ (.slice (some ⟨wr.heap.size, 0, none⟩) 0 0)).setCell ⟨w1.heap.size, 1, none⟩ (.int .i64 (lo + k + 1))) = 0) := hm3
            clear hT hm3
            go_wp2
            try rw [← hqa]
            try rw [← hqh]
            go_roundw
            case rel => exact ⟨k + 1, wr.heap.size, 0, by omega, by unfold Hid; rw [show lo + ((k + 1 : Nat) : Int) = lo + k + 1 by omega]; exact HT.out⟩
            case measure => rw [HM3.out, HMW.out]; omega
          · obtain ⟨cc, hcc⟩ : ∃ cc, ck = cc + 2 := ⟨ck - 2, by omega⟩
            subst hcc
            have hqq : True := trivial
            go_wp2_with (at_builtin; refine wpList_append_own _ rfl _ _ 24 rfl (w.heap.size + 2) 43 i0 (.agg #[.int .i64 0, .int .i64 0, .string ByteArray.empty]) 3 32 Tryd.underlying24 hi hz0 hz1 hz2 rfl (by decide) _ 0 [] rfl (by exact hempty) ⟨gk, 3, none⟩ m (cc + 1) ((es.drop (k + 1)).flatMap flY.c) rfl (by rw [flat_len flY.c_len, hdrl]) (by exact fun j u hu => newcell hal (HNW.out j u hu)) (oneY _) (by unfold maxLen; omega) (by omega) (by simp; omega) ?_)
            intro v3 w3 hown3 hgrow3 hnil3
            obtain ⟨g3, c3, rfl, _, _⟩ := form hown3 (fun e => by first | exact hnil3 e | (have := hnil3.1 e; cases this.1))
            have hown3' : w3.ownsRow (w.heap.size + 2) 43 3 (.slice (some ⟨g3, 0, none⟩) (es.drop (k + 1)).length c3) (es.drop (k + 1)).length ((es.drop (k + 1)).flatMap flY.c) := by rw [hdrl]; simpa using hown3
            have hT := trim_sp hs.out hgrow3 hown3'
            rw [hdrl] at hT
            have HT : Hid (SP w sn lo nx es ms ga ha cg ch w1.heap.size (lo + k + 1) nx g3 c3 h1 c2 (es.drop (k + 1)) ((w3.setCell ⟨w1.heap.size, 3, none⟩ (.slice (some ⟨g3, 0, none⟩) m c3)).setCell ⟨w1.heap.size, 1, none⟩ (.int .i64 (lo + k + 1)))) := hT.2.2
            have k1 : w3.cell? ⟨w1.heap.size, 1, none⟩ = some (.int .i64 (lo + k)) := hT.1.2
            have k3 : ∃ v, w3.cell? ⟨w1.heap.size, 3, none⟩ = some v := ⟨_, hT.1.1⟩
            obtain ⟨v3, k3⟩ := k3
            have f3 : w3.frozen? ⟨w1.heap.size, 3, none⟩ = false := hT.2.1.1
            have f1 : w3.frozen? ⟨w1.heap.size, 1, none⟩ = false := hT.2.1.2
            have hm3 : lenAt w1.heap.size ((w3.setCell ⟨w1.heap.size, 3, none⟩ (.slice (some ⟨g3, 0, none⟩) m c3)).setCell ⟨w1.heap.size, 1, none⟩ (.int .i64 (lo + k + 1))) = m := by
              have := lenAt_eq (bcell HT.out.out rfl : _ = some (Value.slice (some ⟨g3, 0, none⟩) (es.drop (k + 1)).length c3))
              rw [hdrl] at this
              exact this
            have HM3 : Hid (lenAt w1.heap.size ((w3.setCell ⟨w1.heap.size, 3, none⟩ (.slice (some ⟨g3, 0, none⟩) m c3)).setCell ⟨w1.heap.size, 1, none⟩ (.int .i64 (lo + k + 1))) = m) := hm3
            clear hown3 hown3' hgrow3 hnil3 hT hm3
            go_wp2
            try rw [← hqa]
            try rw [← hqh]
            go_roundw
            case rel => exact ⟨k + 1, g3, c3, by omega, by unfold Hid; rw [show lo + ((k + 1 : Nat) : Int) = lo + k + 1 by omega]; exact HT.out⟩
            case measure => rw [HM3.out, HMW.out]; omega
      · obtain rfl : k = d := by omega
        have HSK : Hid (SP w sn lo nx es ms ga ha cg ch w1.heap.size (lo + k) nx gk ck h1 c2 (es.drop k) wr) := hs
        have hlk : (es.drop k).length = es.length - k := List.length_drop
        have n0 : wr.cell? ⟨w1.heap.size, 0, none⟩ = some (.string sn) := bcell hso.out rfl
        have n2 : wr.cell? ⟨w1.heap.size, 2, none⟩ = some (.int .i64 nx) := bcell hso.out rfl
        have n4 : wr.cell? ⟨w1.heap.size, 4, none⟩ = some (.slice (some ⟨h1, 0, none⟩) ms.length c2) := bcell hso.out rfl
        have z0 : wr.cell? ⟨w.heap.size + 1, 0, none⟩ = some (.string ⟨#[]⟩) := bcell hso.res rfl
        have z1 : wr.cell? ⟨w.heap.size + 1, 1, none⟩ = some (.int .i64 0) := bcell hso.res rfl
        have z2 : wr.cell? ⟨w.heap.size + 1, 2, none⟩ = some (.int .i64 0) := bcell hso.res rfl
        have z3 : wr.cell? ⟨w.heap.size + 1, 3, none⟩ = some (.slice none 0 0) := bcell hso.res rfl
        have z4 : wr.cell? ⟨w.heap.size + 1, 4, none⟩ = some (.slice none 0 0) := bcell hso.res rfl
        have z0f := bfree hso.res 0
        have z1f := bfree hso.res 1
        have z2f := bfree hso.res 2
        have z3f := bfree hso.res 3
        have z4f := bfree hso.res 4
        have hry := ry_owns hso.oe
        clear hso
        have HLK : Hid ((es.drop k).length = es.length - k) := hlk
        clear hlk
        by_cases hz : es.length - k = 0
        · rw [hz] at n3
          have q1 : ¬ (0 : Int) < ((0 : Nat) : Int) := by omega
          clear hry
          go_wp2
          refine bodyPost_ret (v := .agg #[.string sn, .int .i64 (lo + k), .int .i64 nx, .slice (some ⟨gk, 0, none⟩) 0 ck, .slice (some ⟨h1, 0, none⟩) ms.length c2]) (by simp [results, Tryd.results39, go_sem, z0, z1, z2, z3, z4]) rfl ?_
          have hlz : (es.drop k).length = 0 := HLK.out.trans hz
          have r1 := fin_row (B := w.heap.size) (x0 := .string sn) (x1 := .int .i64 (lo + k)) (x2 := .int .i64 nx) (x3 := .slice (some ⟨gk, 0, none⟩) 0 ck) (x4 := .slice (some ⟨h1, 0, none⟩) ms.length c2) flY.c_len HSK.out.oe
          have r2 := fin_row (B := w.heap.size) (x0 := .string sn) (x1 := .int .i64 (lo + k)) (x2 := .int .i64 nx) (x3 := .slice (some ⟨gk, 0, none⟩) 0 ck) (x4 := .slice (some ⟨h1, 0, none⟩) ms.length c2) flK.c_len HSK.out.om
          have r3 := fin_below (x0 := .string sn) (x1 := .int .i64 (lo + k)) (x2 := .int .i64 nx) (x3 := .slice (some ⟨gk, 0, none⟩) 0 ck) (x4 := .slice (some ⟨h1, 0, none⟩) ms.length c2) HSK.out.bel (Nat.le_succ _)
          refine ⟨some ⟨gk, 0, none⟩, ck, some ⟨h1, 0, none⟩, c2, ?_, r1, r2, r3⟩
          first | rfl | rw [hlz] | (simp; omega) | (rw [← hlz]; simp) | exact ⟨some ⟨gk, 0, none⟩, ck, some ⟨h1, 0, none⟩, c2, by rw [hlz], r1, r2, r3⟩ | exact ⟨some ⟨gk, 0, none⟩, ck, some ⟨h1, 0, none⟩, ⟨c2, by first | rw [hlz] | rfl⟩, r1, r2, r3⟩ | exact ⟨some ⟨gk, 0, none⟩, some ⟨h1, 0, none⟩, ⟨ck, c2, by first | rw [hlz] | rfl⟩, r1, r2, r3⟩ | exact ⟨some ⟨gk, 0, none⟩, ⟨ck, some ⟨h1, 0, none⟩, ⟨c2, by first | rw [hlz] | rfl⟩, r1, r2, r3⟩⟩
        · have hke : k < es.length := by omega
          have g0 : es[k]? = some es[k] := List.getElem?_eq_getElem hke
          have hit := HIFF.out k _ g0
          obtain ⟨a0, a1, a2⟩ := hry.2 0 es[k] (by rw [List.getElem?_drop, Nat.add_zero]; exact g0)
          obtain ⟨⟨eo, et, eb⟩, he⟩ : ∃ e, es[k] = e := ⟨_, rfl⟩
          rw [he] at a0 a1 a2 hit
          have hit : (count < ((es.length - k : Nat) : Int) ∨ et < oldest) ↔ k < k := hit
          have a1 : wr.cell? ⟨gk, 1, none⟩ = some (.int .i64 et) := by simpa using a1
          obtain ⟨m, hm⟩ : ∃ m, es.length - k = m + 1 := ⟨es.length - k - 1, by omega⟩
          rw [hm] at n3 hit
          have q2 : ¬ count < ((m + 1 : Nat) : Int) := fun hh => by have := hit.1 (.inl hh); omega
          have q3 : ¬ et < oldest := fun hh => by have := hit.1 (.inr hh); omega
          have q1d : decide ((0 : Int) < ((m + 1 : Nat) : Int)) = true := decide_eq_true (by omega)
          have q2d : decide (count < ((m + 1 : Nat) : Int)) = false := decide_eq_false q2
          have q3d : decide (et < oldest) = false := decide_eq_false q3
          clear hry hit a0 a2 he g0
          go_wp2
          refine bodyPost_ret (v := .agg #[.string sn, .int .i64 (lo + k), .int .i64 nx, .slice (some ⟨gk, 0, none⟩) (m + 1) ck, .slice (some ⟨h1, 0, none⟩) ms.length c2]) (by simp [results, Tryd.results39, go_sem, z0, z1, z2, z3, z4]) rfl ⟨some ⟨gk, 0, none⟩, ck, some ⟨h1, 0, none⟩, c2, ?_, ?_, ?_, ?_⟩
          · first | rfl | rw [← hm] | (rw [← hm]; simp) | (simp; omega)
          · exact fin_row flY.c_len HSK.out.oe
          · exact fin_row flK.c_len HSK.out.om
          · exact fin_below HSK.out.bel (Nat.le_succ _)
  · obtain rfl : d = 0 := by rw [HGO.out, if_neg hgo]
    cases hob : okB sn lo nx es ms with
    | false =>
      rw [hob] at hok
      go_wp2_with (go_at_call 30; fail)
      clear hX x0 x1 x2 x3 x4
      refine hok.mono ?_
      rintro e w2 ⟨rfl, hb2⟩
      have hs2 := HSP.out.on hb2
      have HS2 : Hid (SP w sn lo nx es ms ga ha cg ch w1.heap.size lo nx g1 c1 h1 c2 es w2) := hs2
      have n0 : w2.cell? ⟨w1.heap.size, 0, none⟩ = some (.string sn) := bcell hs2.out rfl
      have n1 : w2.cell? ⟨w1.heap.size, 1, none⟩ = some (.int .i64 lo) := bcell hs2.out rfl
      have n2 : w2.cell? ⟨w1.heap.size, 2, none⟩ = some (.int .i64 nx) := bcell hs2.out rfl
      have n3 : w2.cell? ⟨w1.heap.size, 3, none⟩ = some (.slice (some ⟨g1, 0, none⟩) es.length c1) := bcell hs2.out rfl
      have n4 : w2.cell? ⟨w1.heap.size, 4, none⟩ = some (.slice (some ⟨h1, 0, none⟩) ms.length c2) := bcell hs2.out rfl
      have z0 : w2.cell? ⟨w.heap.size + 1, 0, none⟩ = some (.string ⟨#[]⟩) := bcell hs2.res rfl
      have z1 : w2.cell? ⟨w.heap.size + 1, 1, none⟩ = some (.int .i64 0) := bcell hs2.res rfl
      have z2 : w2.cell? ⟨w.heap.size + 1, 2, none⟩ = some (.int .i64 0) := bcell hs2.res rfl
      have z3 : w2.cell? ⟨w.heap.size + 1, 3, none⟩ = some (.slice none 0 0) := bcell hs2.res rfl
      have z4 : w2.cell? ⟨w.heap.size + 1, 4, none⟩ = some (.slice none 0 0) := bcell hs2.res rfl
      have z0f := bfree hs2.res 0
      have z1f := bfree hs2.res 1
      have z2f := bfree hs2.res 2
      have z3f := bfree hs2.res 3
      have z4f := bfree hs2.res 4
      clear hok hs2 HSP
      go_wp2
      refine bodyPost_ret (v := .agg #[.string sn, .int .i64 lo, .int .i64 nx, .slice (some ⟨g1, 0, none⟩) es.length c1, .slice (some ⟨h1, 0, none⟩) ms.length c2]) (by simp [results, Tryd.results39, go_sem, z0, z1, z2, z3, z4]) rfl ⟨some ⟨g1, 0, none⟩, c1, some ⟨h1, 0, none⟩, c2, by simp, ?_, ?_, ?_⟩
      · rw [List.drop_zero]; exact fin_row flY.c_len HS2.out.oe
      · exact fin_row flK.c_len HS2.out.om
      · exact fin_below HS2.out.bel (Nat.le_succ _)
    | true =>
      rw [hob] at hok
      have f0 : decide (count < 0) = true := by simp; exact Int.not_le.1 (fun hh => hgo ⟨hob, hh⟩)
      go_wp2_with (go_at_call 30; fail)
      clear hX x0 x1 x2 x3 x4
      refine hok.mono ?_
      rintro e w2 ⟨rfl, hb2⟩
      have hs2 := HSP.out.on hb2
      have HS2 : Hid (SP w sn lo nx es ms ga ha cg ch w1.heap.size lo nx g1 c1 h1 c2 es w2) := hs2
      have n0 : w2.cell? ⟨w1.heap.size, 0, none⟩ = some (.string sn) := bcell hs2.out rfl
      have n1 : w2.cell? ⟨w1.heap.size, 1, none⟩ = some (.int .i64 lo) := bcell hs2.out rfl
      have n2 : w2.cell? ⟨w1.heap.size, 2, none⟩ = some (.int .i64 nx) := bcell hs2.out rfl
      have n3 : w2.cell? ⟨w1.heap.size, 3, none⟩ = some (.slice (some ⟨g1, 0, none⟩) es.length c1) := bcell hs2.out rfl
      have n4 : w2.cell? ⟨w1.heap.size, 4, none⟩ = some (.slice (some ⟨h1, 0, none⟩) ms.length c2) := bcell hs2.out rfl
      have z0 : w2.cell? ⟨w.heap.size + 1, 0, none⟩ = some (.string ⟨#[]⟩) := bcell hs2.res rfl
      have z1 : w2.cell? ⟨w.heap.size + 1, 1, none⟩ = some (.int .i64 0) := bcell hs2.res rfl
      have z2 : w2.cell? ⟨w.heap.size + 1, 2, none⟩ = some (.int .i64 0) := bcell hs2.res rfl
      have z3 : w2.cell? ⟨w.heap.size + 1, 3, none⟩ = some (.slice none 0 0) := bcell hs2.res rfl
      have z4 : w2.cell? ⟨w.heap.size + 1, 4, none⟩ = some (.slice none 0 0) := bcell hs2.res rfl
      have z0f := bfree hs2.res 0
      have z1f := bfree hs2.res 1
      have z2f := bfree hs2.res 2
      have z3f := bfree hs2.res 3
      have z4f := bfree hs2.res 4
      clear hok hs2 HSP
      go_wp2
      refine bodyPost_ret (v := .agg #[.string sn, .int .i64 lo, .int .i64 nx, .slice (some ⟨g1, 0, none⟩) es.length c1, .slice (some ⟨h1, 0, none⟩) ms.length c2]) (by simp [results, Tryd.results39, go_sem, z0, z1, z2, z3, z4]) rfl ⟨some ⟨g1, 0, none⟩, c1, some ⟨h1, 0, none⟩, c2, by simp, ?_, ?_, ?_⟩
      · rw [List.drop_zero]; exact fin_row flY.c_len HS2.out.oe
      · exact fin_row flK.c_len HS2.out.om
      · exact fin_below HS2.out.bel (Nat.le_succ _)
end Go.Proofs.YtlfhfcgcfggjcaaDoor.strm

/- A stream as it is drawn: its two lists lie in rows of their own at or above a block, or nowhere; how great it is. -/
namespace Go.Proofs.YtlfhfcgcfggjcaaDoor.dsl
open Go.ChangeShapes Go.WideShapes Go.ChangeAt Go.RowKit Go.Proofs.YtlfhfcgcfggjcaaDoor.fl Go.Proofs.YtlfhfcgcfggjcaaDoor.dw Go.Proofs.YtlfhfcgcfggjcaaDoor.rr Go.Proofs.YtlfhfcgcfggjcaaDoor.st Go.Proofs.YtlfhfcgcfggjcaaDoor.scp Go.Proofs.YtlfhfcgcfggjcaaDoor.spw
set_option linter.unusedVariables false

/-- its lists' rows -/
structure Dr (B : Nat) (W : World) (es : List flY.En) (ms : List Ex) (ga : Option Addr) (cg : Nat) (ha : Option Addr) (ch : Nat) : Prop where
  oe : W.ownsRow B 43 3 (.slice ga es.length cg) es.length (es.flatMap flY.c)
  om : W.ownsRow B 45 2 (.slice ha ms.length ch) ms.length (ms.flatMap flK.c)
theorem owns_p {W W' : World} {B p k m : Nat} {T : TypeId} {v : Value} {xs : List Value} (h : W.ownsRow B T m v k xs) (hb : On p W W') (hp : p < B) : W'.ownsRow B T m v k xs := by
  refine h.kept hb ?_
  cases hv : v.ownBlock with
  | none => exact .inl rfl
  | some g =>
    right
    have := (h.lt g hv).1
    intro e
    have := Option.some.inj e
    omega
section
variable {B p : Nat} {W W' : World} {es : List flY.En} {ms : List Ex} {ga ha : Option Addr} {cg ch : Nat}
theorem Dr.on (h : Dr B W es ms ga cg ha ch) (hb : On p W W') (hp : p < B) : Dr B W' es ms ga cg ha ch := ⟨owns_p h.oe hb hp, owns_p h.om hb hp⟩
theorem Dr.below (h : Dr B W es ms ga cg ha ch) (hb : Below W.heap.size W W') : Dr B W' es ms ga cg ha ch := by
  refine ⟨h.oe.kept (row := none) ⟨hb.os, hb.tape, hb.output, hb.size, fun k hk _ => hb.block k hk⟩ ?_, h.om.kept (row := none) ⟨hb.os, hb.tape, hb.output, hb.size, fun k hk _ => hb.block k hk⟩ ?_⟩
  · cases hv : (Value.slice ga es.length cg).ownBlock with
    | none => exact .inl rfl
    | some g => exact .inr (by simp)
  · cases hv : (Value.slice ha ms.length ch).ownBlock with
    | none => exact .inl rfl
    | some g => exact .inr (by simp)
theorem Dr.alloc (h : Dr B W es ms ga cg ha ch) (o : Obj) : Dr B (W.alloc o) es ms ga cg ha ch := h.below ((Below.refl _ _).alloc (Nat.le_refl _) _)
theorem Dr.drew (h : Dr B W es ms ga cg ha ch) : Dr B W.drew es ms ga cg ha ch := h.below (Below.refl _ _).drew
theorem Dr.low {B' : Nat} (h : Dr B W es ms ga cg ha ch) (hb : B' ≤ B) : Dr B' W es ms ga cg ha ch := ⟨own_low h.oe hb, own_low h.om hb⟩
theorem nil_dr (B : Nat) (W : World) : Dr B W [] [] none 0 none 0 := ⟨⟨rfl, .inl ⟨rfl, rfl⟩⟩, ⟨rfl, .inl ⟨rfl, rfl⟩⟩⟩
theorem dr_of (h1 : OR flY.c 3 43 W B ga cg es) (h2 : OR flK.c 2 45 W B ha ch ms) : Dr B W es ms ga cg ha ch := ⟨h1.2, h2.2⟩
theorem ry_na (hW : 0 < W.heap.size) (h : W.ownsRow B 43 3 (.slice ga es.length cg) es.length (es.flatMap flY.c)) : ∃ g, apo.NA ga g es.length cg ∧ RY W g es ∧ es.length ≤ cg := by
  have h0 := h
  obtain ⟨_, ⟨h1, h2⟩ | ⟨g, cap, cur, h1, _, _, hcap, _⟩⟩ := h
  · have : es = [] := List.length_eq_zero_iff.1 h2
    subst this
    cases h1
    exact ⟨0, .inr ⟨rfl, rfl, rfl⟩, ⟨hW, fun i e he => by simp at he⟩, Nat.le_refl _⟩
  · cases h1
    exact ⟨g, .inl rfl, ry_owns h0, hcap⟩
theorem re_na (hW : 0 < W.heap.size) (h : W.ownsRow B 45 2 (.slice ha ms.length ch) ms.length (ms.flatMap flK.c)) : ∃ g, apo.NA ha g ms.length ch ∧ RE W g ms ∧ ms.length ≤ ch := by
  have h0 := h
  obtain ⟨_, ⟨h1, h2⟩ | ⟨g, cap, cur, h1, _, _, hcap, _⟩⟩ := h
  · have : ms = [] := List.length_eq_zero_iff.1 h2
    subst this
    cases h1
    exact ⟨0, .inr ⟨rfl, rfl, rfl⟩, ⟨hW, fun i e he => by simp at he⟩, Nat.le_refl _⟩
  · cases h1
    exact ⟨g, .inl rfl, re_owns h0, hcap⟩
/-- as the contracts want it -/
theorem Dr.use (h : Dr B W es ms ga cg ha ch) (hW : 0 < W.heap.size) : ∃ g k, apo.NA ga g es.length cg ∧ apo.NA ha k ms.length ch ∧ RY W g es ∧ RE W k ms ∧ es.length ≤ cg ∧ ms.length ≤ ch := by
  obtain ⟨g, h1, h2, h3⟩ := ry_na hW h.oe
  obtain ⟨k, k1, k2, k3⟩ := re_na hW h.om
  exact ⟨g, k, h1, k1, h2, k2, h3, k3⟩
theorem Dr.rows (h : Dr B W es ms ga cg ha ch) : Row flY.c 3 W W.heap.size ga es ∧ Row flK.c 2 W W.heap.size ha ms := by
  obtain ⟨a, cap, hv, hr⟩ := fl.own_row flY.c_len h.oe
  obtain ⟨b, cap', hv', hr'⟩ := fl.own_row flK.c_len h.om
  cases hv
  cases hv'
  exact ⟨hr, hr'⟩
end
/-- how great it is -/
structure Sm (j : Nat) (nx : Int) (es : List flY.En) (ms : List Ex) : Prop where
  el : es.length ≤ j
  ml : ms.length ≤ j
  n0 : 0 ≤ nx
  n1 : nx ≤ j
  eb : ∀ e ∈ es, e.b.size ≤ 3
  mb : ∀ e ∈ ms, e.n.size ≤ 2
section
variable {j : Nat} {nx : Int} {es : List flY.En} {ms : List Ex}
theorem sm_nil : Sm 0 0 [] [] := ⟨Nat.le_refl _, Nat.le_refl _, Int.le_refl _, Int.le_refl _, fun e h => (by cases h), fun e h => (by cases h)⟩
theorem Sm.more {k : Nat} (h : Sm j nx es ms) (hk : j ≤ k) : Sm k nx es ms := ⟨by have := h.el; omega, by have := h.ml; omega, h.n0, by have := h.n1; omega, h.eb, h.mb⟩
theorem Sm.fit (h : Sm j nx es ms) (hj : j ≤ 1000) {sn : ByteArray} (hs : sn.size ≤ 1000) : Fit sn es ms :=
  ⟨by omega, by have := h.el; omega, by have := h.ml; omega, fun e he => by have := h.eb e he; omega, fun e he => by have := h.mb e he; omega⟩
theorem Sm.trim {sn : ByteArray} {lo c o : Int} (h : Sm j nx es ms) : Sm j nx (strm.ansE sn lo nx es ms c o) ms :=
  ⟨by have := h.el; unfold strm.ansE; rw [List.length_drop]; omega, h.ml, h.n0, h.n1, fun e he => h.eb e (List.mem_of_mem_drop he), h.mb⟩
theorem Sm.put {sn : ByteArray} {lo t : Int} {b : ByteArray} (h : Sm j nx es ms) (hb : b.size ≤ 3) : Sm (j + 1) (sput.ansN sn lo nx es ms t b) (sput.ansE sn lo nx es ms t b) ms := by
  unfold sput.ansN sput.ansE
  have h1 := h.el
  have h2 := h.n0
  have h3 := h.n1
  have h4 := h.ml
  split
  · refine ⟨by simp; omega, by omega, by omega, by omega, fun e he => ?_, h.mb⟩
    rcases List.mem_append.1 he with he | he
    · exact h.eb e he
    · rw [List.mem_singleton.1 he]; exact hb
  · exact h.more (by omega)
theorem Sm.mark {sn : ByteArray} {lo o : Int} {r : ByteArray} (h : Sm j nx es ms) (hb : r.size ≤ 2) : Sm (j + 1) nx es (smp.ansM sn lo nx es ms r o) := by
  have h1 := h.el
  have h3 := h.n1
  have h4 := h.ml
  have h5 := smp.ansM_le sn lo nx es ms r o
  refine ⟨by omega, by omega, h.n0, by omega, h.eb, fun e he => ?_⟩
  unfold smp.ansM at he
  split at he
  · rcases smp.setM_mem he with he | he
    · exact h.mb e he
    · rw [he]; exact hb
  · exact h.mb e he
end
end Go.Proofs.YtlfhfcgcfggjcaaDoor.dsl

/- StreamMarked, the specification's and the program's: the offset of the first mark of a reader, 0 where there is none; new memory alone. -/
namespace Go.Proofs.YtlfhfcgcfggjcaaDoor.smk
open Go.ChangeShapes Go.WideShapes Go.ChangeAt Go.RowKit Go.Proofs.YtlfhfcgcfggjcaaDoor.fl Go.Proofs.YtlfhfcgcfggjcaaDoor.rc Go.Proofs.YtlfhfcgcfggjcaaDoor.rr Go.Proofs.YtlfhfcgcfggjcaaDoor.st
set_option linter.unusedVariables false

def mark : List Ex → ByteArray → Int
  | [], _ => 0
  | m :: r, x => if m.n.toList = x.toList then m.k else mark r x
theorem mark_hit (x : ByteArray) : ∀ (l : List Ex) (k : Nat) (e : Ex), l[k]? = some e → (∀ (i : Nat) a, i < k → l[i]? = some a → a.n.toList ≠ x.toList) → e.n.toList = x.toList → mark l x = e.k
  | [], k, e, h, _, _ => by simp at h
  | m :: r, 0, e, h, _, he => by simp at h; subst h; simp [mark, he]
  | m :: r, k + 1, e, h, hn, he => by
    have h0 := hn 0 m (by omega) rfl
    simp only [mark, h0, if_false]
    exact mark_hit x r k e (by simpa using h) (fun i a hi ha => hn (i + 1) a (by omega) (by simpa using ha)) he
theorem mark_miss (x : ByteArray) : ∀ (l : List Ex), (∀ (i : Nat) a, l[i]? = some a → a.n.toList ≠ x.toList) → mark l x = 0
  | [], _ => rfl
  | m :: r, h => by
    have h0 := h 0 m rfl
    simp only [mark, h0, if_false]
    exact mark_miss x r (fun i a ha => h (i + 1) a (by simpa using ha))

set_option maxRecDepth 100000 in
set_option maxHeartbeats 2000000 in
theorem spec_marked (sn : ByteArray) (lo nx : Int) (es : List flY.En) (ms : List Ex) (g h cg ch : Nat) (rd : ByteArray) (w : World) (F : Fit sn es ms) (hY : RY w g es) (hE : RE w h ms) (ga ha : Option Addr) (hga : Hid (0 < es.length → ga = some ⟨g, 0, none⟩)) (hha : Hid (0 < ms.length → ha = some ⟨h, 0, none⟩)) :
    Calls Tryd.prog 16 #[.agg #[.string sn, .int .i64 lo, .int .i64 nx, .slice ga es.length cg, .slice ha ms.length ch], .string rd] w fun e w' => e = .returned (.int .i64 (mark ms rd)) ∧ Below w.heap.size w w' := by
  have hl := F.ml
  have hb : Below w.heap.size w (w.alloc (.cells #[.string sn, .int .i64 lo, .int .i64 nx, .slice ga es.length cg, .slice ha ms.length ch] 27)) := (Below.refl _ _).alloc (Nat.le_refl _) _
  have hA := bnew w #[.string sn, .int .i64 lo, .int .i64 nx, .slice ga es.length cg, .slice ha ms.length ch] 27
  have HE : Hid (RE (w.alloc (.cells #[.string sn, .int .i64 lo, .int .i64 nx, .slice ga es.length cg, .slice ha ms.length ch] 27)) h ms) := hE.below hb
  obtain ⟨W, hW⟩ : ∃ W, w.alloc (.cells #[.string sn, .int .i64 lo, .int .i64 nx, .slice ga es.length cg, .slice ha ms.length ch] 27) = W := ⟨_, rfl⟩
  rw [hW] at hb hA HE
  have c4 : W.cell? ⟨w.heap.size, 4, none⟩ = some (.slice ha ms.length ch) := bcell hA rfl
  obtain ⟨z, hz⟩ : ∃ z, mark ms rd = z := ⟨_, rfl⟩
  rw [hz]
  have HZ : Hid (mark ms rd = z) := hz
  clear hE hA hY F hz
  go_enter Tryd.func16, Tryd.ntmps16
  go_wp2
  clear hW
  go_loopw [5] (fun v wr => ∃ k : Nat, k ≤ ms.length ∧ v = .int .i64 k ∧ Hid (∀ (i : Nat) a, i < k → ms[i]? = some a → a.n.toList ≠ rd.toList) ∧ wr = W) (fun v _ => ms.length - (intOf v).toNat)
  case atStart => exact ⟨0, Nat.zero_le _, rfl, fun i a h => by omega, rfl⟩
  case round =>
    obtain ⟨k, hk, rfl, hn, hwr⟩ := hrel
    obtain rfl := hwr.symm
    by_cases hkl : k < ms.length
    · have g0 : ms[k]? = some ms[k] := List.getElem?_eq_getElem hkl
      have hqh : ha = some ⟨h, 0, none⟩ := hha.out (by omega)
      obtain ⟨a0, a1⟩ := HE.out.2 k _ g0
      have HG : Hid (ms[k]? = some ms[k]) := g0
      obtain ⟨⟨mn, mo⟩, he⟩ : ∃ e, ms[k] = e := ⟨_, rfl⟩
      rw [he] at a0 a1 HG
      have i2 : (k : Int) < (ms.length : Int) := by omega
      clear g0 he
      by_cases heq : mn.toList = rd.toList
      · have hq : (mn.toList == rd.toList) = true := by simp [heq]
        have hm : mo = z := (mark_hit rd ms k _ HG.out hn.out heq).symm.trans HZ.out
        subst hm
        clear heq
        go_wp2
        go_ret
        exact ⟨rfl, hb⟩
      · have hq : (mn.toList == rd.toList) = false := by simp [heq]
        have hn2 : Hid (∀ (i : Nat) a, i < k + 1 → ms[i]? = some a → a.n.toList ≠ rd.toList) := fun i a hi ha => by
          by_cases ei : i = k
          · subst ei; rw [HG.out] at ha; cases ha; exact heq
          · exact hn.out i a (by omega) ha
        clear heq
        go_wp2
        try rw [← hqa]
        try rw [← hqh]
        go_roundw
        case rel => exact ⟨k + 1, by omega, by go_num, hn2, by first | rfl | trivial⟩
        case measure => simp [intOf]; omega
    · obtain rfl : 0 = z := (mark_miss rd ms (fun i a ha => hn.out i a (by have := (List.getElem?_eq_some_iff.1 ha).1; omega) ha)).symm.trans HZ.out
      go_wp2
      go_ret
      exact ⟨rfl, hb⟩

set_option maxRecDepth 100000 in
set_option maxHeartbeats 2000000 in
theorem impl_marked (sn : ByteArray) (lo nx : Int) (es : List flY.En) (ms : List Ex) (g h cg ch : Nat) (rd : ByteArray) (w : World) (F : Fit sn es ms) (hY : RY w g es) (hE : RE w h ms) (ga ha : Option Addr) (hga : Hid (0 < es.length → ga = some ⟨g, 0, none⟩)) (hha : Hid (0 < ms.length → ha = some ⟨h, 0, none⟩)) :
    Calls Tryd.prog 15 #[.agg #[.string sn, .int .i64 lo, .int .i64 nx, .slice ga es.length cg, .slice ha ms.length ch], .string rd] w fun e w' => e = .returned (.int .i64 (mark ms rd)) ∧ Below w.heap.size w w' := by
  have hl := F.ml
  have hb : Below w.heap.size w (w.alloc (.cells #[.string sn, .int .i64 lo, .int .i64 nx, .slice ga es.length cg, .slice ha ms.length ch] 27)) := (Below.refl _ _).alloc (Nat.le_refl _) _
  have hA := bnew w #[.string sn, .int .i64 lo, .int .i64 nx, .slice ga es.length cg, .slice ha ms.length ch] 27
  have HE : Hid (RE (w.alloc (.cells #[.string sn, .int .i64 lo, .int .i64 nx, .slice ga es.length cg, .slice ha ms.length ch] 27)) h ms) := hE.below hb
  obtain ⟨W, hW⟩ : ∃ W, w.alloc (.cells #[.string sn, .int .i64 lo, .int .i64 nx, .slice ga es.length cg, .slice ha ms.length ch] 27) = W := ⟨_, rfl⟩
  rw [hW] at hb hA HE
  have c4 : W.cell? ⟨w.heap.size, 4, none⟩ = some (.slice ha ms.length ch) := bcell hA rfl
  obtain ⟨z, hz⟩ : ∃ z, mark ms rd = z := ⟨_, rfl⟩
  rw [hz]
  have HZ : Hid (mark ms rd = z) := hz
  clear hE hA hY F hz
  go_enter Tryd.func15, Tryd.ntmps15
  go_wp2
  clear hW
  go_loopw [10, 6] (fun v _ wr => ∃ k : Nat, k ≤ ms.length ∧ v = .int .i64 k ∧ Hid (∀ (i : Nat) a, i < k → ms[i]? = some a → a.n.toList ≠ rd.toList) ∧ Below W.heap.size W wr) (fun v _ _ => ms.length - (intOf v).toNat)
  case atStart => exact ⟨0, Nat.zero_le _, rfl, fun i a h => by omega, Below.refl _ _⟩
  case round =>
    obtain ⟨k, hk, rfl, hn, hbel⟩ := hrel
    have hbs := hbel.size
    by_cases hkl : k < ms.length
    · have g0 : ms[k]? = some ms[k] := List.getElem?_eq_getElem hkl
      have hqh : ha = some ⟨h, 0, none⟩ := hha.out (by omega)
      obtain ⟨a0, a1⟩ := (HE.out.below hbel).2 k _ g0
      have HG : Hid (ms[k]? = some ms[k]) := g0
      obtain ⟨⟨mn, mo⟩, he⟩ : ∃ e, ms[k] = e := ⟨_, rfl⟩
      rw [he] at a0 a1 HG
      have i2 : (k : Int) < (ms.length : Int) := by omega
      clear g0 he
      by_cases heq : mn.toList = rd.toList
      · have hq : (mn.toList == rd.toList) = true := by simp [heq]
        have hm : mo = z := (mark_hit rd ms k _ HG.out hn.out heq).symm.trans HZ.out
        subst hm
        clear heq
        go_wp2
        go_ret
        exact ⟨rfl, hb.trans ((hbel.alloc hbs _).mono hb.size)⟩
      · have hq : (mn.toList == rd.toList) = false := by simp [heq]
        have hn2 : Hid (∀ (i : Nat) a, i < k + 1 → ms[i]? = some a → a.n.toList ≠ rd.toList) := fun i a hi ha => by
          by_cases ei : i = k
          · subst ei; rw [HG.out] at ha; cases ha; exact heq
          · exact hn.out i a (by omega) ha
        clear heq
        go_wp2
        try rw [← hqa]
        try rw [← hqh]
        go_roundw
        case rel => exact ⟨k + 1, by omega, by go_num, hn2, hbel.alloc hbs _⟩
        case measure => simp [intOf]; omega
    · obtain rfl : 0 = z := (mark_miss rd ms (fun i a ha => hn.out i a (by have := (List.getElem?_eq_some_iff.1 ha).1; omega) ha)).symm.trans HZ.out
      go_wp2
      go_ret
      exact ⟨rfl, hb.trans (hbel.mono hb.size)⟩
end Go.Proofs.YtlfhfcgcfggjcaaDoor.smk
