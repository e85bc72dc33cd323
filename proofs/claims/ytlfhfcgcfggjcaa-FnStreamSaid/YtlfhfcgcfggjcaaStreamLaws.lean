/- What FnStream asks of streams, without memory: what is read behind a put, how a sought offset parts the entries, what is left by a trim. -/
import Derived.Test.YtlfhfcgcfggjcaaStreamTrimSpec
import Derived.Test.YtlfhfcgcfggjcaaStreamPutSpec
import Derived.Test.YtlfhfcgcfggjcaaStreamReadSpec
namespace Go.Proofs.Ytlfhfcgcfggjcaa.slw
open Go.Proofs.Ytlfhfcgcfggjcaa.fl Go.Proofs.Ytlfhfcgcfggjcaa.rr Go.Proofs.Ytlfhfcgcfggjcaa.st
set_option linter.unusedVariables false

theorem parts {es : List flY.En} {t : Int} {k : Nat} {e : flY.En} (hS : ∀ (i : Nat) a b, es[i]? = some a → es[i + 1]? = some b → a.t ≤ b.t) (he : es[k]? = some e) : t ≤ e.t ↔ ssk.first es t ≤ k := by
  constructor
  · intro h
    rcases Nat.lt_or_ge k (ssk.first es t) with hq | hq
    · have := strm.first_ahead es k e hq he
      omega
    · exact hq
  · intro h
    have hk := (List.getElem?_eq_some_iff.1 he).1
    have hf : es[ssk.first es t]? = some es[ssk.first es t] := List.getElem?_eq_getElem (by omega)
    have h2 := strm.first_at es _ hf
    have h3 := ssk.sorted hS (k - ssk.first es t) (ssk.first es t) _ e hf (by rw [show ssk.first es t + (k - ssk.first es t) = k by omega]; exact he)
    omega
/-- what is sought by time parts the entries -/
theorem seek_parts {sn : ByteArray} {lo nx : Int} {es : List flY.En} {ms : List Ex} {t : Int} {k : Nat} {e : flY.En} (hok : OkT sn lo nx es ms) (he : es[k]? = some e) : ssk.seek sn lo nx es ms t ≤ e.o ↔ t ≤ e.t := by
  rw [parts hok.eu he]
  have ho := (hok.eo k e he).1
  unfold ssk.seek
  rw [if_pos (okB_true.2 hok), ho]
  omega
/-- what is put is read -/
theorem read_put {sn : ByteArray} {lo nx : Int} {es : List flY.En} {ms : List Ex} {t : Int} {b : ByteArray} (hf : sput.fits sn lo nx es ms t b = true) : srd.read sn lo (sput.ansN sn lo nx es ms t b) (sput.ansE sn lo nx es ms t b) ms nx 5 = [⟨nx, t, b⟩] := by
  have h2 : sput.ansE sn lo nx es ms t b = es ++ [⟨nx, t, b⟩] := by unfold sput.ansE; rw [if_pos hf]
  have h3 : sput.ansN sn lo nx es ms t b = nx + 1 := by unfold sput.ansN; rw [if_pos hf]
  rw [h2, h3]
  unfold sput.fits at hf
  obtain ⟨ha, hb⟩ := Bool.and_eq_true_iff.1 hf
  have hok := okB_true.1 ha
  have hl := hok.len
  have h0 := hok.lo0
  unfold srd.read
  rw [if_pos hb, show srd.skip lo nx = es.length by unfold srd.skip; rw [Int.max_eq_left h0.2]; omega]
  simp
theorem ok_drop {sn : ByteArray} {lo nx : Int} {es : List flY.En} {ms : List Ex} (h : OkT sn lo nx es ms) {g : Nat} (hg : g ≤ es.length) : OkT sn (lo + g) nx (es.drop g) ms :=
  ⟨h.nmk, h.nx0, by have := h.lo0; have := h.len; omega, by rw [List.length_drop]; have := h.len; omega, by rw [List.length_drop]; have := h.el; omega, h.ml, fun i e he => by
    rw [List.getElem?_drop] at he
    have := h.eo (g + i) e he
    exact ⟨by have := this.1; omega, this.2⟩, fun i a b ha hb => by
    rw [List.getElem?_drop] at ha hb
    exact h.eu (g + i) a b ha hb, h.mo, h.mu⟩
section
variable {sn : ByteArray} {lo nx : Int} {es : List flY.En} {ms : List Ex} {count oldest : Int}
theorem trim_not (h : ¬ (okB sn lo nx es ms = true ∧ 0 ≤ count)) : strm.ansE sn lo nx es ms count oldest = es ∧ strm.ansL sn lo nx es ms count oldest = lo := by
  unfold strm.ansE strm.ansL strm.goes
  rw [if_neg h]
  simp
theorem trim_is (h : OkT sn lo nx es ms) (hc : 0 ≤ count) : strm.ansE sn lo nx es ms count oldest = es.drop (strm.gone es count oldest) ∧ strm.ansL sn lo nx es ms count oldest = lo + strm.gone es count oldest := by
  unfold strm.ansE strm.ansL strm.goes
  rw [if_pos ⟨okB_true.2 h, hc⟩]
  exact ⟨rfl, rfl⟩
theorem trim_ok (h : OkT sn lo nx es ms) (hc : 0 ≤ count) : OkT sn (strm.ansL sn lo nx es ms count oldest) nx (strm.ansE sn lo nx es ms count oldest) ms := by
  rw [(trim_is h hc).1, (trim_is h hc).2]
  exact ok_drop h (strm.gone_le es count oldest)
/-- of the trimmed all is read -/
theorem read_left (h : OkT sn lo nx es ms) (hc : 0 ≤ count) : srd.read sn (strm.ansL sn lo nx es ms count oldest) nx (strm.ansE sn lo nx es ms count oldest) ms 0 1000 = strm.ansE sn lo nx es ms count oldest := by
  have hk := trim_ok (oldest := oldest) h hc
  have h0 := hk.lo0
  have hl := hk.el
  unfold srd.read
  rw [if_pos (okB_true.2 hk), show srd.skip (strm.ansL sn lo nx es ms count oldest) 0 = 0 by unfold srd.skip; rw [Int.max_eq_right h0.1]; omega, List.drop_zero, List.take_of_length_le (by show _ ≤ 1000; omega)]
theorem read_whole (h : OkT sn lo nx es ms) (hc : 0 ≤ count) : srd.read sn lo nx es ms (strm.ansL sn lo nx es ms count oldest) 1000 = strm.ansE sn lo nx es ms count oldest := by
  have hl := h.el
  obtain ⟨e1, e2⟩ := trim_is (oldest := oldest) h hc
  unfold srd.read
  rw [if_pos (okB_true.2 h), e1, e2, show srd.skip lo (lo + strm.gone es count oldest) = strm.gone es count oldest by unfold srd.skip; rw [Int.max_eq_left (by omega)]; omega, List.take_of_length_le (by rw [List.length_drop]; show _ ≤ 1000; omega)]
theorem left_few (h : OkT sn lo nx es ms) (hc : 0 ≤ count) : ((strm.ansE sn lo nx es ms count oldest).length : Int) ≤ count := by
  rw [(trim_is h hc).1, List.length_drop]
  unfold strm.gone
  omega
theorem left_new (h : OkT sn lo nx es ms) (hc : 0 ≤ count) {i : Nat} {e : flY.En} (he : (strm.ansE sn lo nx es ms count oldest)[i]? = some e) : oldest ≤ e.t := by
  rw [(trim_is h hc).1, List.getElem?_drop] at he
  refine (parts h.eu he).2 ?_
  unfold strm.gone
  omega
end
end Go.Proofs.Ytlfhfcgcfggjcaa.slw
