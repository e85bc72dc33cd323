/- The law of Spoken, walked: at every channel and replies the program answers as the specification, and writes into nothing of them. -/
import Derived.Test.YtnmooolnmhidbaaDoorSpokenImpl
import Derived.Test.YtnmooolnmhidbaaDoorReplyEq
import Derived.Test.YtnmooolnmhidbaaDoorReplyArg
namespace Go.Proofs.YtnmooolnmhidbaaDoor.lwSpoken
open Go.ChangeShapes Go.WideShapes Go.ChangeAt Go.RowKit Go.Proofs.YtnmooolnmhidbaaDoor.fl Go.Proofs.YtnmooolnmhidbaaDoor.rp Go.Proofs.YtnmooolnmhidbaaDoor.spk Go.Proofs.YtnmooolnmhidbaaDoor.sps Go.Proofs.YtnmooolnmhidbaaDoor.spi
set_option linter.unusedVariables false

theorem same_rep {r s : Rp} (h : same r s) (no : Int) : rep no r = rep no s ∧ wtP r = wtP s := by
  obtain ⟨h1, h2, h3, h4, h5, h6⟩ := h
  unfold rep first wtP
  rw [h1, h2, h3, h4, h5, h6]
  exact ⟨rfl, rfl⟩
theorem same_all (no : Int) : ∀ (l ks : List Rp), ks.length = l.length → (∀ (j : Nat) (r s : Rp), ks[j]? = some r → l[j]? = some s → same r s) → spoken no ks = spoken no l ∧ fl.bulk wtP ks = fl.bulk wtP l
  | [], [], _, _ => ⟨rfl, rfl⟩
  | [], _ :: _, h, _ => by simp at h
  | _ :: _, [], h, _ => by simp at h
  | s :: l, r :: ks, h, hs => by
    have h1 := same_rep (hs 0 r s rfl rfl) no
    have h2 := same_all no l ks (by simpa using h) (fun j a b ha hb => hs (j + 1) a b (by simpa using ha) (by simpa using hb))
    unfold spoken at h2 ⊢
    simp only [List.map_cons, cat, fl.bulk]
    rw [h1.1, h1.2, h2.1, h2.2]
    exact ⟨rfl, rfl⟩
theorem so_fit {w W : World} {B g : Nat} {l ks : List Rp} (so : So w B g l ks l.length) (hin : ∀ r ∈ l, rpa.In W r) (hw : l.length + fl.bulk wtP l ≤ 1048576) : ∀ r ∈ ks, Fit r := fun r hr => by
  obtain ⟨j, hj⟩ := List.mem_iff_getElem?.1 hr
  have hjl : j < l.length := by have := (List.getElem?_eq_some_iff.1 hj).1; have := so.len; omega
  have hs : l[j]? = some l[j] := List.getElem?_eq_getElem hjl
  obtain ⟨h1, h2, h3, h4, h5, h6⟩ := so.same j r _ hjl hj hs
  have hI := hin l[j] (List.getElem_mem hjl)
  have hwt := fl.bulk_le wtP (List.getElem_mem hjl)
  obtain ⟨g1, g2, _, _, _, _, _, _, k1, k2⟩ := so.mine j r hjl hj
  have e : wtP l[j] = l[j].ts.length + ls.bulk l[j].ts + l[j].ns.length + l[j].b.size := rfl
  refine ⟨by rw [h1]; exact hI.wc, by rw [h2]; exact hI.wi, by rw [h3]; omega, ?_, by rw [h4]; omega, by rw [h4]; exact hI.nw, by rw [h6]; omega, k1, k2⟩
  rw [h3]
  intro x hx
  have := ls.bulk_le hx
  omega
theorem so_len {w : World} {B g : Nat} {l ks : List Rp} (so : So w B g l ks l.length) (j : Nat) (r s : Rp) (hr : ks[j]? = some r) (hs : l[j]? = some s) : same r s := so.same j r s (List.getElem?_eq_some_iff.1 hs).1 hr hs

set_option maxRecDepth 100000 in
set_option maxHeartbeats 4000000 in
theorem walk (no : Int) (w0 : (Lit.int .i64 no).wf = true) (l : List Rp) (a : Option Addr) (cap : Nat) (w : World) (hl : l.length ≤ maxLen) (hin : ∀ r ∈ l, rpa.In w r) (hR : Row cP 6 w w.heap.size a l) (ht : mi.Tab w) :
    Calls Tryd.prog 7 #[.int .i64 no, .slice a l.length cap] w fun e w' => e = .returned (.bool true) ∧ Below w.heap.size w w' := by
  obtain ⟨_, hn⟩ := bounds_i64 w0
  have hV : VP w w.heap.size a l := ⟨hR, fun r hr => ⟨(hin r hr).st, (hin r hr).sn⟩⟩
  have hsz := sz_replies l a cap 1048576 w hl (fun r hr => (hin r hr).ok) (by omega) (by omega) hV
  have HV : Hid (VP w w.heap.size a l) := hV
  have HI : Hid (∀ r ∈ l, rpa.In w r) := hin
  have HT : Hid (mi.Tab w) := ht
  clear hR hV hin ht w0
  go_enter Tryd.func7, Tryd.ntmps7
  go_wp2_with (go_at_call 21; fail)
  refine hsz.mono ?_
  rintro e w1 ⟨r, rfl, hr, hr0, hr1, hb1⟩
  clear hsz
  by_cases hneg : r < 0
  · go_wp2
    go_ret
    exact ⟨rfl, hb1⟩
  have hw : l.length + fl.bulk wtP l ≤ 1048576 := by have := hr (by omega); omega
  have hlen : l.length ≤ 1048576 := by omega
  have hlist : ∀ e ∈ l, e.ts.length ≤ 1048576 ∧ e.ns.length ≤ 1048576 := fun e he => by
    have := fl.bulk_le wtP he
    have e' : wtP e = e.ts.length + ls.bulk e.ts + e.ns.length + e.b.size := rfl
    omega
  have HLI : Hid (∀ e ∈ l, e.ts.length ≤ 1048576 ∧ e.ns.length ≤ 1048576) := hlist
  have hr3 : (0 : Int) ≤ r := by omega
  have ht1 := to_replies l a cap w1 hlen hlist (HV.out.inn hb1)
  clear hr hlist
  go_wp2_with (go_at_call 23; fail)
  refine ht1.mono ?_
  rintro e w2 ⟨k1, rfl, so1, hb2⟩
  have hB2 : Below w.heap.size w w2 := hb1.trans (hb2.mono hb1.size)
  obtain ⟨e1, f1⟩ := same_all no l k1 so1.len (so_len so1)
  have hsp := spec_spoken no k1 (some ⟨w1.heap.size, 0, none⟩) l.length w2 hn (by rw [so1.len]; exact hlen) (so_fit so1 HI.out hw) so1.vp
  rw [so1.len, e1] at hsp
  clear ht1 so1 e1 f1
  go_wp2_with (go_at_call 22; fail)
  refine hsp.mono ?_
  rintro e w3 ⟨rfl, hb3⟩
  have hB3 : Below w.heap.size w w3 := hB2.trans (hb3.mono hB2.size)
  have ht2 := to_replies l a cap w3 hlen HLI.out (HV.out.inn hB3)
  obtain ⟨sp, hspk⟩ : ∃ s, spoken no l = s := ⟨_, rfl⟩
  have HSP : Hid (∀ _ : Unit, spoken no l = sp) := fun _ => hspk
  rw [hspk]
  clear hsp hspk
  go_wp2_with (go_at_call 23; fail)
  refine ht2.mono ?_
  rintro e w4 ⟨k2, rfl, so2, hb4⟩
  have hB4 : Below w.heap.size w w4 := hB3.trans (hb4.mono hB3.size)
  obtain ⟨e2, f2⟩ := same_all no l k2 so2.len (so_len so2)
  have him := impl_spoken no k2 (some ⟨w3.heap.size, 0, none⟩) l.length w4 hn (by rw [so2.len, f2]; exact hw) (so_fit so2 HI.out hw) so2.vp (mi.tab_on HT.out hB4)
  rw [so2.len, e2, HSP.out ()] at him
  have HS2 : Hid (So w4 (w3.heap.size + 1) w3.heap.size l k2 l.length) := so2
  clear ht2 so2 e2 f2
  go_wp2_with (go_at_call 24; fail)
  refine him.mono ?_
  rintro e w5 ⟨rfl, hb5⟩
  have hB5 : Below w.heap.size w w5 := hB4.trans (hb5.mono hB4.size)
  have hbx : ∀ V, Below w5.heap.size w5 V → Below w4.heap.size w4 V := fun V hV => hb5.trans (hV.mono hb5.size)
  clear him
  have ht3 := to_replies l a cap w5 hlen HLI.out (HV.out.inn hB5)
  clear hbx
  go_wp2_with (go_at_call 23; fail)
  refine ht3.mono ?_
  rintro e w6 ⟨k3, rfl, so3, hb6⟩
  have hB6 : Below w.heap.size w w6 := hB5.trans (hb6.mono hB5.size)
  have hvp2 := HS2.out.vp.inn (hb5.trans (hb6.mono hb5.size))
  have heq := eq_replies k2 k3 (some ⟨w3.heap.size, 0, none⟩) (some ⟨w5.heap.size, 0, none⟩) l.length l.length w6 (by rw [HS2.out.len]; exact hl) (fun e he => ⟨by have := (so_fit HS2.out HI.out hw e he).tl; omega, by have := (so_fit HS2.out HI.out hw e he).nl; omega⟩) (by rw [so3.len, HS2.out.len]) (fun k r s h2 h3 => by
    have hk : k < l.length := by have := (List.getElem?_eq_some_iff.1 h2).1; have := HS2.out.len; omega
    obtain ⟨a1, a2, a3, a4, a5, a6⟩ := so_len HS2.out k r _ h2 (List.getElem?_eq_getElem hk)
    obtain ⟨b1, b2, b3, b4, b5, b6⟩ := so_len so3 k s _ h3 (List.getElem?_eq_getElem hk)
    exact ⟨a1.trans b1.symm, a2.trans b2.symm, a3.trans b3.symm, a4.trans b4.symm, a5.trans b5.symm, a6.trans b6.symm⟩) hvp2 so3.vp
  rw [HS2.out.len] at heq
  clear ht3 so3 hvp2
  go_wp2_with (go_at_call 25; fail)
  refine heq.mono ?_
  rintro e w7 ⟨rfl, hb7⟩
  clear heq
  go_wp2
  go_ret
  exact ⟨rfl, hB6.trans (hb7.mono hB6.size)⟩
end Go.Proofs.YtnmooolnmhidbaaDoor.lwSpoken
