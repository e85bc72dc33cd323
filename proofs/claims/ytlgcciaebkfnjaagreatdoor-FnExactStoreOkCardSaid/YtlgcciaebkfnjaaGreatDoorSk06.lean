/- The newest pair of a key in a table, and the specification's TableGet. -/
import Derived.Test.YtlgcciaebkfnjaaGreatDoorSk05
import Derived.Test.YtlgcciaebkfnjaaGreatDoorDoneKit
import Derived.Laws.CopyRow
import Derived.Test.YtlgcciaebkfnjaaGreatDoorSk03
import Derived.Maps.AppendAt
import Derived.Deep.QuietTactic
import Derived.BigQuiet
import Derived.Test.YtlgcciaebkfnjaaGreatDoorTabOk

/- copy at rows of structures, and the ways that copy and append(s, make(S, n)...) go in a walk. -/
namespace Go.Proofs.YtlgcciaebkfnjaaGreatDoor.cpr
open Go.RowKit
set_option linter.unusedVariables false

theorem run_copy_rows {P : Program} (w : World) (dT sT ty elem : TypeId) (i : TypeInfo) (g o dLen dCap : Nat) (a : Addr) (sLen sCap : Nat) (cur : Array Value) (t : TypeId) (cs : List Value)
    (hu : P.underlying dT = some (.slice elem)) (hi : P.info? elem = some i)
    (hg : w.heap[g]? = some (.cells cur t (0, 0))) (hn : cs.length = Nat.min sLen dLen * i.size)
    (hsrc : ∀ j v, cs[j]? = some v → w.cell? (a.add j) = some v) (hfit : o + cs.length ≤ cur.size) (h1 : ∀ v ∈ cs, v.oneCell' = true) :
    (Builtin.copy_ #[dT, sT] ty #[.slice (some ⟨g, o, none⟩) dLen dCap, .slice (some a) sLen sCap]).run P w =
      .ok (goInt (Nat.min sLen dLen)) (w.setRow g (cur.toList.take o ++ cs ++ cur.toList.drop (o + cs.length)).toArray) := by
  have hl := run_loadCells_list (P := P) w a cs hsrc
  have hst := run_storeCells_at P g o t cs 0 cur w hg (by simpa using hfit) h1
  simp [Builtin.copy_, run_underlying hu, Builtin.lenOf, Builtin.firstCells, sizeOf, typeInfo, hi, ← hn, hl, hst]
theorem wpList_copy_run {P : Program} {w w' : World} {ops : Array Oper} {rest : List Oper} {o : Oper} {a : Act} {Q : Exit → Act → World → Prop} (hgd : o.guard = none) (d s : Operand) (t t' : TypeId)
    (ho : o.op = .call { callee := .builtin .copy, args := #[d, s], argTypes := #[t, t'] }) (dv sv v : Value) (hd : a.eval d = dv) (hs : a.eval s = sv) (hrun : (Builtin.copy_ #[t, t'] o.type #[dv, sv]).run P w = .ok v w')
    (h : wpList P ops Q rest (a.put o.dst v) w') : wpList P ops Q (o :: rest) a w := by
  refine wpList_plain hgd fun K hK => ?_
  unfold Oper.wp
  simp [execOp, ho, resolve, invoke, builtin, hd, hs, hrun, Result.andThen]
  exact hK _ _ h
theorem wpList_append_run {P : Program} {w w' : World} {ops : Array Oper} {rest : List Oper} {o : Oper} {a : Act} {Q : Exit → Act → World → Prop} (hgd : o.guard = none) (d s : Operand) (t t' : TypeId)
    (ho : o.op = .call { callee := .builtin .append, args := #[d, s], argTypes := #[t, t'] }) (dv sv v : Value) (hd : a.eval d = dv) (hs : a.eval s = sv) (hrun : (Builtin.append_ #[t, t'] o.type #[dv, sv]).run P w = .ok v w')
    (h : wpList P ops Q rest (a.put o.dst v) w') : wpList P ops Q (o :: rest) a w := by
  refine wpList_plain hgd fun K hK => ?_
  unfold Oper.wp
  simp [execOp, ho, resolve, invoke, builtin, hd, hs, hrun, Result.andThen]
  exact hK _ _ h
theorem lastv {P : Program} {fin : Act} {D : Bool → World → Prop} {k : Nat} {o : Oper} (v : Value) (hd : ∀ d, o.dst = some d → fin.tmps[d]? = some v) (hrun : ∀ W, D false W → ∃ W', (execOp fin.eval o).run P W = .ok (.value v) W' ∧ D true W') : dn.Step P fin (dk.Cl D k) k o := by
  intro L W _ h0 hC
  have hC' : D false W := by unfold dk.Cl at hC; rw [h0] at hC; exact hC
  obtain ⟨W', h1, h2⟩ := hrun W hC'
  refine ⟨v, hd, ?_⟩
  rw [h1]
  exact ⟨rfl, by unfold dk.Cl dn.more; rw [if_pos rfl]; exact h2⟩
end Go.Proofs.YtlgcciaebkfnjaaGreatDoor.cpr

/- The program's newestOf: the newest pair of each key, ascending, in a row of its own. -/
namespace Go.Proofs.YtlgcciaebkfnjaaGreatDoor.rnw
open Go.ChangeShapes Go.WideShapes Go.ChangeAt Go.RowKit Go.Proofs.YtlgcciaebkfnjaaGreatDoor.fl Go.Proofs.YtlgcciaebkfnjaaGreatDoor.rn Go.Proofs.YtlgcciaebkfnjaaGreatDoor.ri Go.Proofs.YtlgcciaebkfnjaaGreatDoor.rst Go.Proofs.YtlgcciaebkfnjaaGreatDoor.rpu Go.Proofs.YtlgcciaebkfnjaaGreatDoor.rpo
set_option linter.unusedVariables false

/-- the heap holds the first k runs, those that are not empty -/
structure Jn (rs : List Rn) (k : Nat) (M : List It) : Prop where
  of : ∀ q ∈ M, ∃ r, rs[q.p]? = some r ∧ q.l = r.l ∧ q.p < k ∧ q.l.length ≤ q.c
  all : ∀ (i : Nat) r, i < k → rs[i]? = some r → r.l ≠ [] → ∃ q ∈ M, q.p = i ∧ q.l = r.l
  len : M.length ≤ k
theorem Jn.perm {rs : List Rn} {k : Nat} {M N : List It} (h : Jn rs k M) (hp : N.Perm M) : Jn rs k N :=
  ⟨fun q hq => h.of q (hp.mem_iff.1 hq), fun i r hi hr hn => by obtain ⟨q, hq, h2⟩ := h.all i r hi hr hn; exact ⟨q, hp.mem_iff.2 hq, h2⟩, by rw [hp.length_eq]; exact h.len⟩
theorem Jn.skip {rs : List Rn} {k : Nat} {M : List It} {r : Rn} (h : Jn rs k M) (hr : rs[k]? = some r) (he : r.l = []) : Jn rs (k + 1) M := by
  refine ⟨fun q hq => ?_, fun i x hi hx hn => ?_, by have := h.len; omega⟩
  · obtain ⟨x, h1, h2, h3, h4⟩ := h.of q hq
    exact ⟨x, h1, h2, by omega, h4⟩
  · by_cases e : i = k
    · subst e; rw [hr] at hx; cases hx; exact absurd he hn
    · exact h.all i x (by omega) hx hn
theorem Jn.push {rs : List Rn} {k : Nat} {M : List It} {r : Rn} {q : It} (h : Jn rs k M) (hr : rs[k]? = some r) (hq : q.p = k ∧ q.l = r.l ∧ q.l.length ≤ q.c) : Jn rs (k + 1) (M ++ [q]) := by
  obtain ⟨q1, q2, q3⟩ := hq
  refine ⟨fun x hx => ?_, fun i x hi hx hn => ?_, by have := h.len; simp; omega⟩
  · rcases List.mem_append.1 hx with hx | hx
    · obtain ⟨y, h1, h2, h3, h4⟩ := h.of x hx
      exact ⟨y, h1, h2, by omega, h4⟩
    · simp at hx; subst hx
      exact ⟨r, by rw [q1]; exact hr, q2, by omega, q3⟩
  · by_cases e : i = k
    · subst e; rw [hr] at hx; cases hx
      exact ⟨q, by simp, q1, q2⟩
    · obtain ⟨y, hy, h2⟩ := h.all i x (by omega) hx hn
      exact ⟨y, by simp [hy], h2⟩
theorem Jn.inv {rs : List Rn} {M : List It} (h : Jn rs rs.length M) : mgp.Inv (rs.map (·.l)) M [] := by
  refine ⟨fun q hq => ?_, by simp [mgp.Asc], fun _ _ _ _ x hx => (by cases hx), fun x hx => (by cases hx), fun i l hl e he => .inr ?_⟩
  · obtain ⟨r, h1, h2, _⟩ := h.of q hq
    exact ⟨r.l, [], by rw [List.getElem?_map, h1]; rfl, by rw [h2]; rfl⟩
  · rw [List.getElem?_map, Option.map_eq_some_iff] at hl
    obtain ⟨r, hr, rfl⟩ := hl
    obtain ⟨q, hq, h1, h2⟩ := h.all i r (List.getElem?_eq_some_iff.1 hr).1 hr (fun e2 => by rw [e2] at he; cases he)
    exact ⟨q, hq, h1, by rw [h2]; exact he⟩

def tot (M : List It) : Nat := (M.map fun q => q.l.length).sum
theorem tot_cons (q : It) (M : List It) : tot (q :: M) = q.l.length + tot M := by simp [tot]
theorem tot_app (M N : List It) : tot (M ++ N) = tot M + tot N := by simp [tot]
theorem tot_perm {M N : List It} (h : M.Perm N) : tot M = tot N := by
  induction h with
  | nil => rfl
  | cons x _ ih => rw [tot_cons, tot_cons, ih]
  | swap x y l => simp only [tot_cons]; omega
  | trans _ _ ih1 ih2 => exact ih1.trans ih2
theorem tot_nx {r : It} {e : flP.Pr} {t : List flP.Pr} (h : r.l = e :: t) : tot (rfi.nx r) = t.length := by
  unfold rfi.nx
  rw [h]
  cases t with
  | nil => rfl
  | cons f u => simp [tot]
theorem tot_le : ∀ {M : List It}, (∀ q ∈ M, q.l.length ≤ 300) → tot M ≤ 300 * M.length
  | [], _ => by simp [tot]
  | q :: M, h => by
    have h1 := h q (by simp)
    have h2 := tot_le (M := M) fun x hx => h x (by simp [hx])
    rw [tot_cons, List.length_cons]
    omega
def lenAt (w : World) (g i : Nat) : Nat := match w.cell? ⟨g, i * 2, none⟩ with
  | some (.slice _ m _) => m
  | _ => 0
/-- how many pairs are left in a heap, as memory tells it -/
def meas (hb g : Nat) (w : World) : Nat := match w.cell? ⟨hb, 0, none⟩ with
  | some (.slice _ n _) => ((List.range n).map (lenAt w g)).sum
  | _ => 0
theorem meas_eq {W0 : World} {hb g cap : Nat} {M : List It} {w : World} (h : SG W0 hb g cap M w) : meas hb g w = tot M := by
  have hb1 : w.cell? ⟨hb, 0, none⟩ = some (.slice (some ⟨g, 0, none⟩) M.length cap) := bcell h.box rfl
  unfold meas
  rw [hb1]
  show ((List.range M.length).map (lenAt w g)).sum = (M.map fun q => q.l.length).sum
  congr 1
  apply List.ext_getElem?
  intro i
  rw [List.getElem?_map, List.getElem?_map]
  by_cases hi : i < M.length
  · rw [List.getElem?_range hi, List.getElem?_eq_getElem hi]
    simp only [Option.map_some]
    have := (h.row.at (List.getElem?_eq_getElem hi)).c0
    unfold lenAt
    rw [this]
  · rw [List.getElem?_eq_none (by simpa using hi), List.getElem?_eq_none (by omega)]
    rfl
theorem own_kq {w w' : World} {B hb g n m : Nat} {T : TypeId} {v : Value} {xs : List Value} (h : w.ownsRow B T m v n xs) (hk : Kq hb g w w') (h1 : v.ownBlock ≠ some hb) (h2 : v.ownBlock ≠ some g) : w'.ownsRow B T m v n xs := by
  refine ⟨h.1, ?_⟩
  rcases h.2 with h3 | ⟨b, cap, cur, rfl, hB, hc, h4⟩
  · exact .inl h3
  · exact .inr ⟨b, cap, cur, rfl, hB, (hk.block b (Array.getElem?_eq_some_iff.1 hc).1 (fun e => h2 (by rw [e]; rfl)) (fun e => h1 (by rw [e]; rfl))).trans hc, h4⟩
theorem own_below {w w' : World} {B n m : Nat} {T : TypeId} {v : Value} {xs : List Value} (h : w.ownsRow B T m v n xs) (hb : Below w.heap.size w w') : w'.ownsRow B T m v n xs :=
  h.kept (row := none) ⟨hb.os, hb.tape, hb.output, hb.size, fun i hi _ => hb.block i hi⟩ (by
    cases hv : v.ownBlock with
    | none => exact .inl rfl
    | some g => right; simp)
theorem bdrewN {B : Nat} {a w : World} (h : Below B a w) (n : Nat) : Below B a (w.drewN n) := ⟨h.os, h.tape, h.output, h.size, h.block⟩

/-- the first pair of all, taken out of the heap -/
theorem first_run (W0 : World) (hb g cap : Nat) (r : It) (rest : List It) (e : flP.Pr) (t : List flP.Pr) (w : World) (hS : SG W0 hb g cap (r :: rest) w) (hr : r.l = e :: t) (hl : (r :: rest).length ≤ 100) (hc : r.l.length ≤ r.c) (hH : hp.Heap less (r :: rest) (r :: rest).length) :
    Calls Tryz.prog 139 #[.pointer (some ⟨hb, 0, none⟩)] w fun x w' => x = .returned (.agg #[.string e.k, .string e.v, .bool e.g]) ∧ ∃ M : List It, M.Perm (rfi.nx r ++ rest) ∧ hp.Heap less M M.length ∧ SG W0 hb g cap M w' ∧ Kq hb g w w' := by
  cases t with
  | nil =>
    refine (rfi.first_one W0 hb g cap (r :: rest) r e w hS rfl hr hl hH).mono fun x w' ⟨h1, M, h2, h3⟩ => ⟨h1, M, ?_, h3⟩
    have : rfi.nx r = [] := by unfold rfi.nx; rw [hr]
    rw [this]
    exact h2.cons_inv
  | cons f u =>
    refine (rfi.first_more W0 hb g cap (r :: rest) r e f u w hS rfl hr hl hc hH).mono fun x w' ⟨h1, M, h2, h3⟩ => ⟨h1, M, ?_, h3⟩
    have : rfi.nx r = [⟨r.b, r.o + 3, r.c - 1, f :: u, r.p⟩] := by unfold rfi.nx; rw [hr]
    rw [this]
    exact h2
/-- what stands at the head of a round -/
structure St (w : World) (g cap : Nat) (ls : List (List flP.Pr)) (M : List It) (out : List flP.Pr) (v : Value) (wr : World) : Prop where
  inv : mgp.Inv ls M out
  heap : hp.Heap less M M.length
  sg : SG w w.heap.size g cap M wr
  ml : M.length ≤ 20
  mc : ∀ q ∈ M, q.l.length ≤ q.c
  own : wr.ownsRow w.heap.size 49 3 v out.length (out.flatMap flP.c)
  n1 : v.ownBlock ≠ some w.heap.size
  n2 : v.ownBlock ≠ some g
  ol : out.length + tot M ≤ 6000
theorem St.on {w : World} {g cap : Nat} {ls : List (List flP.Pr)} {M : List It} {out : List flP.Pr} {v : Value} {wr w1 : World} (h : St w g cap ls M out v wr) (hb : Below wr.heap.size wr w1) : St w g cap ls M out v w1 :=
  ⟨h.inv, h.heap, h.sg.on hb, h.ml, h.mc, own_below h.own hb, h.n1, h.n2, h.ol⟩
theorem infoP : (Tryz.prog.info? 49).map (fun i => (i.zero, i.size, i.bytes)) = some (some (.agg #[.string ByteArray.empty, .string ByteArray.empty, .bool false]), 3, 40) := by kernel_rfl
theorem nx_mc {r : It} {e : flP.Pr} {t : List flP.Pr} (hr : r.l = e :: t) (hc : r.l.length ≤ r.c) : ∀ q ∈ rfi.nx r, q.l.length ≤ q.c := fun q hq => by
  unfold rfi.nx at hq
  rw [hr] at hq hc
  cases t with
  | nil => cases hq
  | cons f u => simp at hq hc; subst hq; simp; omega
theorem nx_len (r : It) : (rfi.nx r).length ≤ 1 := by
  unfold rfi.nx
  split <;> simp

set_option maxRecDepth 100000 in
set_option maxHeartbeats 2000000 in
theorem newest_run (rs : List Rn) (ra : Option Addr) (rc : Nat) (w : World) (hl : rs.length ≤ 20) (hlen : ∀ r ∈ rs, r.l.length ≤ 300 ∧ r.l.length ≤ r.c) (hA : ∀ l ∈ rs.map (·.l), mgp.Asc l) (hR : VR w w.heap.size ra rs) :
    Calls Tryz.prog 97 #[.slice ra rs.length rc] w fun e w' => ∃ v out, e = .returned v ∧ mgp.Is (rs.map (·.l)) out ∧ out.length ≤ 6000 ∧ w'.ownsRow w.heap.size 49 3 v out.length (out.flatMap flP.c) ∧ Below w.heap.size w w' := by
  have HR : Hid (VR w w.heap.size ra rs) := hR
  have HLE : Hid (∀ r ∈ rs, r.l.length ≤ 300 ∧ r.l.length ≤ r.c) := hlen
  have HAS : Hid (∀ l ∈ rs.map (·.l), mgp.Asc l) := hA
  have hal : Below w.heap.size w (w.alloc (.cells #[.slice none 0 0] 154)) := (Below.refl _ _).alloc (Nat.le_refl _) _
  have hbn := bnew w #[.slice none 0 0] 154
  have HS0 : Hid (SN w w.heap.size [] (w.alloc (.cells #[.slice none 0 0] 154))) := ⟨hal, Nat.le_refl _, ⟨_, hbn, World.ownsRow_nil _ _ _ _, by simp [Value.ownBlock]⟩, fun r hr => (by cases hr)⟩
  clear hR hlen hA hbn
  go_enter Tryz.func97, Tryz.ntmps97
  go_wp2
  go_loopw [4, 5, 10] (fun _ _ x wr => ∃ (k : Nat) (M : List It), k ≤ rs.length ∧ x = .int .i64 k ∧ Hid (Jn rs k M) ∧ Hid (hp.Heap less M M.length) ∧ Hid (SN w w.heap.size M wr)) (fun _ _ x _ => rs.length - (intOf x).toNat)
  case atStart => exact ⟨0, [], Nat.zero_le _, rfl, ⟨fun q hq => (by cases hq), fun i r hi => absurd hi (by omega), Nat.le_refl _⟩, fun i h0 h1 => absurd h1 (by simp), HS0⟩
  case round =>
    obtain ⟨k, M, hk, rfl, hjn, hhp, hsn⟩ := hrel
    by_cases hkl : k < rs.length
    · have HG : Hid (rs[k]? = some rs[k]) := List.getElem?_eq_getElem hkl
      have hmem := List.getElem_mem hkl
      have hrow := HR.out.2 rs[k] hmem
      have hle := HLE.out rs[k] hmem
      obtain ⟨⟨qa, qc, ql⟩, he⟩ : ∃ e, rs[k] = e := ⟨_, rfl⟩
      rw [he] at HG hrow hle
      obtain ⟨b, off, rfl, hlt, hc⟩ := HR.out.1.resolve_left (by rintro rfl; simp at hkl)
      have c0 : wr.cell? ⟨b, off + k, none⟩ = some (.slice qa ql.length qc) := (hsn.out.bel.cell (p := ⟨b, off + k, none⟩) hlt).trans (by have := hc k _ HG.out 0 _ rfl; simpa using this)
      have i2 : (k : Int) < (rs.length : Int) := by omega
      clear he hc hmem
      by_cases hq0 : ql = []
      · subst hq0
        have HJ : Hid (Jn rs (k + 1) M) := hjn.out.skip HG.out rfl
        go_wp2
        go_roundw
        case rel => exact ⟨k + 1, M, by omega, by go_num, HJ, hhp, hsn⟩
        case measure => simp [intOf]; omega
      · have hpos : 0 < ql.length := List.length_pos_iff.2 hq0
        rcases hrow with h0 | ⟨qb, qo, rfl, hqlt, hqc⟩
        · exact absurd h0 hq0
        have hfit : Fits w w.heap.size ⟨qb, qo, qc, ql, k⟩ := ⟨hqlt, hq0, hle.1, by show k ≤ 100; omega, hqc⟩
        have hpush := push_run w w.heap.size M ⟨qb, qo, qc, ql, k⟩ wr hsn.out hhp.out hfit (by have := hjn.out.len; omega)
        have HJ : Hid (Jn rs (k + 1) (M ++ [⟨qb, qo, qc, ql, k⟩])) := hjn.out.push HG.out ⟨rfl, rfl, hle.2⟩
        have i3 : (0 : Int) < (ql.length : Int) := by omega
        clear hqc hfit hsn hhp hjn
        go_wp2_with (go_at_call 137; fail)
        refine hpush.mono ?_
        rintro e w1 ⟨rfl, N, n1, n2, n3⟩
        have HJ2 : Hid (Jn rs (k + 1) N) := HJ.out.perm n1
        have HN2 : Hid (hp.Heap less N N.length) := n2
        have HN3 : Hid (SN w w.heap.size N w1) := n3
        clear hpush n1 n2 n3 c0
        go_wp2
        go_roundw
        case rel => exact ⟨k + 1, N, by omega, by go_num, HJ2, HN2, HN3⟩
        case measure => simp [intOf]; omega
    · obtain rfl : k = rs.length := by omega
      have HI : Hid (mgp.Inv (rs.map (·.l)) M []) := hjn.out.inv
      have HML : Hid (M.length ≤ 20) := by unfold Hid; have := hjn.out.len; omega
      have HMC : Hid (∀ q ∈ M, q.l.length ≤ q.c) := fun q hq => by obtain ⟨_, _, _, _, h4⟩ := hjn.out.of q hq; exact h4
      have hbx : ∃ a c, wr.cell? ⟨w.heap.size, 0, none⟩ = some (.slice a M.length c) := by
        obtain ⟨v, hv, ho, _⟩ := hsn.out.box
        rcases ho.2 with ⟨rfl, h0⟩ | ⟨g, cap, cur, rfl, _⟩
        · exact ⟨none, 0, by rw [h0]; exact bcell hv rfl⟩
        · exact ⟨_, _, bcell hv rfl⟩
      clear hjn hkl hk
      by_cases hM0 : M = []
      · subst hM0
        obtain ⟨a, c, hbx⟩ := hbx
        have hbx : wr.cell? ⟨w.heap.size, 0, none⟩ = some (.slice a 0 c) := hbx
        have hIs : Hid (mgp.Is (rs.map (·.l)) []) := HI.out.fin HAS.out
        have hbel : Below w.heap.size w wr := hsn.out.bel
        clear HI HMC HML
        go_wp2
        refine wp_loop_rounds 1 ?_
        rw [rounds_succ]
        go_wp2_with (go_at_call 138; refine (len_run _ _ _ _).mono ?_; rintro e w0 ⟨rfl, hw0⟩; rw [← hw0]; clear hw0 w0)
        go_ret
        exact ⟨_, [], rfl, hIs.out, by simp, World.ownsRow_nil _ _ _ _, hbel⟩
      · obtain ⟨g, cap, hsg⟩ := hsn.out.sg hM0
        have HSG : Hid (SG w w.heap.size g cap M wr) := hsg
        have hlt5 : ∀ q ∈ M, q.l.length ≤ 300 := fun q hq => (hsg.fits q hq).len
        have hst : Hid (St w g cap (rs.map (·.l)) M [] (.slice none 0 0) wr) := ⟨HI.out, hhp.out, hsg, HML.out, HMC.out, World.ownsRow_nil _ _ _ _, by simp [Value.ownBlock], by simp [Value.ownBlock], by have := tot_le hlt5; have := HML.out; simp; omega⟩
        obtain ⟨i0, hi, hz0, hz1, hz2⟩ := info_parts infoP
        clear hsn hsg hbx hM0 HI HML HMC HSG hhp hlt5
        go_wp2
        go_loopw [6, 7] (fun v _ wx => ∃ (N : List It) (out : List flP.Pr), Hid (St w g cap (rs.map (·.l)) N out v wx)) (fun _ _ wx => meas w.heap.size g wx)
        case atStart => exact ⟨M, [], hst⟩
        case round =>
          obtain ⟨N, out, hSt⟩ := hrel
          have hbx : wr.cell? ⟨w.heap.size, 0, none⟩ = some (.slice (some ⟨g, 0, none⟩) N.length cap) := bcell hSt.out.sg.box rfl
          cases N with
          | nil =>
            have hIs : Hid (mgp.Is (rs.map (·.l)) out) := hSt.out.inv.fin HAS.out
            have HFO : Hid (out.length ≤ 6000 ∧ wr.ownsRow w.heap.size 49 3 u6 out.length (out.flatMap flP.c) ∧ Below w.heap.size w wr) := ⟨by have := hSt.out.ol; omega, hSt.out.own, hSt.out.sg.bel⟩
            go_wp2_with (go_at_call 138; refine (len_run _ _ _ _).mono ?_; rintro e w0 ⟨rfl, hw0⟩; rw [← hw0]; clear hw0 w0)
            go_ret
            exact ⟨_, out, rfl, hIs.out, HFO.out⟩
          | cons r rest =>
            obtain ⟨e, t, hrl⟩ : ∃ e t, r.l = e :: t := by
              cases h : r.l with
              | nil => exact absurd h (hSt.out.sg.fits r (by simp)).ne
              | cons e t => exact ⟨e, t, rfl⟩
            have hfirst := first_run w w.heap.size g cap r rest e t wr hSt.out.sg hrl (by have := hSt.out.ml; omega) (hSt.out.mc r (by simp)) hSt.out.heap
            have hmin : ∀ q ∈ rest, less q r = false := fun q hq => by
              obtain ⟨i, hi⟩ := List.getElem?_of_mem hq
              exact hp.Heap.head ord hSt.out.heap (Nat.le_refl _) (i + 1) (by have := (List.getElem?_eq_some_iff.1 hi).1; simp; omega) r q rfl (by simpa using hi)
            have HTK : Hid ((∀ z, out.getLast? = some z → z.k ≠ e.k) → mgp.Inv (rs.map (·.l)) (rfi.nx r ++ rest) (out ++ [e])) := fun h => hSt.out.inv.take HAS.out hrl hmin h
            have HSK : Hid (∀ z, z ∈ out → z.k = e.k → mgp.Inv (rs.map (·.l)) (rfi.nx r ++ rest) out) := fun z hz hk => hSt.out.inv.skip hrl hz hk
            have hme : meas w.heap.size g wr = t.length + 1 + tot rest := by rw [meas_eq hSt.out.sg, tot_cons, hrl]; rfl
            have HTN : Hid (tot (rfi.nx r ++ rest) = t.length + tot rest) := by unfold Hid; rw [tot_app, tot_nx hrl]
            have HLN : Hid ((rfi.nx r ++ rest).length ≤ 20) := by unfold Hid; have := nx_len r; have := hSt.out.ml; simp at this ⊢; omega
            have HCN : Hid (∀ q ∈ rfi.nx r ++ rest, q.l.length ≤ q.c) := fun q hq => by
              rcases List.mem_append.1 hq with h | h
              · exact nx_mc hrl (hSt.out.mc r (by simp)) q h
              · exact hSt.out.mc q (by simp [h])
            have HOL : Hid (out.length + (t.length + 1 + tot rest) ≤ 6000) := by unfold Hid; have := hSt.out.ol; rw [tot_cons, hrl] at this; simpa using this
            obtain ⟨oa, oc, hu6, _⟩ := own_row flP.c_len hSt.out.own
            subst hu6
            have i1 : (0 : Int) < (rest.length : Int) + 1 := by omega
            have hbx : wr.cell? ⟨w.heap.size, 0, none⟩ = some (.slice (some ⟨g, 0, none⟩) (rest.length + 1) cap) := hbx
            clear hmin hrl
            go_wp2_with (first | (go_at_call 138; refine (len_run _ _ _ _).mono ?_; rintro e w0 ⟨rfl, hw0⟩; rw [← hw0]; clear hw0 w0) | (go_at_call 139; fail))
            refine hfirst.mono ?_
            rintro x w1 ⟨rfl, N2, n1, n2, n3, n4⟩
            have hown1 := own_kq hSt.out.own n4 hSt.out.n1 hSt.out.n2
            have hal1 : Below w1.heap.size w1 (w1.alloc (.cells #[.string e.k, .string e.v, .bool e.g] 49)) := (Below.refl _ _).alloc (Nat.le_refl _) _
            have hA1 := bnew w1 #[.string e.k, .string e.v, .bool e.g] 49
            obtain ⟨X, hX⟩ : ∃ X, w1.alloc (.cells #[.string e.k, .string e.v, .bool e.g] 49) = X := ⟨_, rfl⟩
            rw [hX] at hal1 hA1
            have hXl := (Array.getElem?_eq_some_iff.1 hA1).1
            have HOX : Hid (X.ownsRow w.heap.size 49 3 (.slice oa out.length oc) out.length (out.flatMap flP.c)) := own_below hown1 hal1
            have HSX : Hid (SG w w.heap.size g cap N2 X) := n3.on hal1
            have HAX : Hid (X.heap[w1.heap.size]? = some (.cells #[.string e.k, .string e.v, .bool e.g] 49 (0, 0))) := hA1
            have HN1 : Hid ((Value.slice oa out.length oc).ownBlock ≠ some w.heap.size) := hSt.out.n1
            have HN2 : Hid ((Value.slice oa out.length oc).ownBlock ≠ some g) := hSt.out.n2
            have HPM : Hid (N2.Perm (rfi.nx r ++ rest)) := n1
            have HHP : Hid (hp.Heap less N2 N2.length) := n2
            have x0 : X.cell? ⟨w1.heap.size, 0, none⟩ = some (.string e.k) := bcell hA1 rfl
            have hrowX : Row flP.c 3 X X.heap.size oa out := by
              obtain ⟨a2, c2, h2, h3⟩ := own_row flP.c_len HOX.out
              cases h2
              exact h3
            clear hfirst n1 n2 n3 n4 hown1 hal1 hA1 hSt hbx
            have fin_skip : ∀ (z : flP.Pr) (Y : World), z ∈ out → z.k = e.k → Below X.heap.size X Y → Hid (St w g cap (rs.map (·.l)) N2 out (.slice oa out.length oc) Y) := fun z Y hz hk hb => by
              have hi := (HSK.out z hz hk).perm HPM.out
              refine ⟨hi, HHP.out, HSX.out.on hb, by rw [HPM.out.length_eq]; exact HLN.out, fun q hq => HCN.out q (HPM.out.mem_iff.1 hq), own_below HOX.out hb, HN1.out, HN2.out, by rw [tot_perm HPM.out, HTN.out]; have := HOL.out; omega⟩
            have FSK : Hid (∀ (z : flP.Pr) (Y : World), z ∈ out → z.k = e.k → Below X.heap.size X Y → Hid (St w g cap (rs.map (·.l)) N2 out (.slice oa out.length oc) Y)) := fin_skip
            have hsb : w.heap.size < X.heap.size := (Array.getElem?_eq_some_iff.1 HSX.out.box).1
            have hsg : g < X.heap.size := by obtain ⟨cur, h1, _⟩ := HSX.out.row; exact (Array.getElem?_eq_some_iff.1 h1).1
            have FTK : Hid (∀ (Y Y2 : World) (v : Value), (∀ z, out.getLast? = some z → z.k ≠ e.k) → Below X.heap.size X Y → Y.grownBy Y2 (Value.slice oa out.length oc).ownBlock → Y2.ownsRow w.heap.size 49 3 v (out.length + 1) (out.flatMap flP.c ++ [.string e.k, .string e.v, .bool e.g]) → (v.ownBlock = (Value.slice oa out.length oc).ownBlock ∨ v.ownBlock = some Y.heap.size) → Hid (St w g cap (rs.map (·.l)) N2 (out ++ [e]) v Y2)) := fun Y Y2 v hz hb hg ho hat => by
              have hi := (HTK.out hz).perm HPM.out
              have hsy := HSX.out.on hb
              have hys := hb.size
              obtain ⟨cur, r1, r2⟩ := hsy.row
              have hsg2 : SG w w.heap.size g cap N2 Y2 := ⟨hsy.bel.grown hg (by omega) (fun b hbk => (HOX.out.lt b hbk).1), hsy.hbB, hsy.gB, hsy.ne, (hg.block _ (by omega) (Ne.symm HN1.out)).trans hsy.box, ⟨cur, (hg.block g (by omega) (Ne.symm HN2.out)).trans r1, r2⟩, hsy.fits⟩
              refine ⟨hi, HHP.out, hsg2, by rw [HPM.out.length_eq]; exact HLN.out, fun q hq => HCN.out q (HPM.out.mem_iff.1 hq), ?_, ?_, ?_, by rw [tot_perm HPM.out, HTN.out]; have := HOL.out; simp; omega⟩
              · rw [List.length_append, List.flatMap_append]
                simpa [flP.c] using ho
              · rcases hat with h | h
                · rw [h]; exact HN1.out
                · rw [h]; intro h2; have := Option.some.inj h2; omega
              · rcases hat with h | h
                · rw [h]; exact HN2.out
                · rw [h]; intro h2; have := Option.some.inj h2; omega
            have HMB : Hid (out.length ≤ 6000) := by unfold Hid; have := HOL.out; omega
            have HMT : Hid (∀ (Y : World) (o : List flP.Pr) (v : Value), St w g cap (rs.map (·.l)) N2 o v Y → meas w.heap.size g Y < meas w.heap.size g wr) := fun Y o v h => by rw [hme, meas_eq h.sg, tot_perm HPM.out, HTN.out]; omega
            clear fin_skip hme HTN HLN HCN HOL HTK HSK HPM HHP HSX HN1 HN2
            by_cases h0 : out.length = 0
            · have hcond : ∀ z, out.getLast? = some z → z.k ≠ e.k := fun z hz => by rw [List.eq_nil_of_length_eq_zero h0] at hz; cases hz
              rw [h0] at HOX FTK ⊢
              clear hrowX FSK
              have FSK : True := trivial
              go_wp2
              go_quiet (fail)
              have hbY := bdrewN (Below.refl X.heap.size X) nq
              obtain ⟨Y, hY⟩ : ∃ Y, X.drewN nq = Y := ⟨_, rfl⟩
              rw [hY] at hbY ⊢
              clear hY x0
              have hAY := bstay HAX.out hbY hXl
              have y0 : Y.cell? ⟨w1.heap.size, 0, none⟩ = some (.string e.k) := bcell hAY rfl
              have y1 : Y.cell? ⟨w1.heap.size, 1, none⟩ = some (.string e.v) := bcell hAY rfl
              have y2 : Y.cell? ⟨w1.heap.size, 2, none⟩ = some (.bool e.g) := bcell hAY rfl
              have hbY3 : Below X.heap.size X (Y.alloc (.cells #[.string e.k, .string e.v, .bool e.g] 49)) := hbY.alloc hbY.size _
              obtain ⟨v', Y4, hr, ho, hg, _, hat⟩ := run_append_own_at (P := Tryz.prog) (Y.alloc (.cells #[.string e.k, .string e.v, .bool e.g] 49)) w.heap.size 24 24 49 i0 (.agg #[.string ByteArray.empty, .string ByteArray.empty, .bool false]) 3 40 Tryz.underlying24 hi hz0 hz1 hz2 rfl (by decide) _ 0 (out.flatMap flP.c) (own_below HOX.out hbY3) ⟨Y.heap.size, 0, none⟩ 1 1 [.string e.k, .string e.v, .bool e.g] rfl (fun j u hu => by rw [pap.add0]; exact bcell (bnew Y _ _) (by simpa using hu)) (by intro u hu; simp at hu; rcases hu with rfl | rfl | rfl <;> rfl) (by unfold maxLen; omega) (by omega) (by have := hbY3.size; omega)
              have hst4 := FTK.out _ Y4 v' hcond hbY3 hg ho hat
              have hms := HMT.out Y4 _ v' hst4.out
              clear hAY ho hg hat hbY3 hbY FTK FSK HMT HOX HAX
              go_wp2_with (at_builtin; refine cpr.wpList_append_run rfl _ _ _ _ rfl _ _ _ rfl rfl hr ?_)
              go_roundw
              case rel => exact ⟨N2, out ++ [e], hst4⟩
              case measure => exact hms
            · obtain ⟨m, hm⟩ : ∃ m, out.length = m + 1 := ⟨out.length - 1, by omega⟩
              obtain ⟨z, hz⟩ : ∃ z, out[m]? = some z := ⟨_, List.getElem?_eq_getElem (by omega)⟩
              have hlast : out.getLast? = some z := by rw [List.getLast?_eq_getElem?, hm]; exact hz
              have hmb : m ≤ 6000 := by have := HMB.out; omega
              have wm : IntKind.i64.wrap (m : Int) = (m : Int) := by rw [IntKind.wrap_i64]; omega
              have wm2 : (m : Int) < (m : Int) + 1 := by omega
              have wm3 : ((m : Int) + 1 == 0) = false := by rw [beq_eq_false_iff_ne]; omega
              obtain ⟨ob, oo, rfl, holt, hoc⟩ := hrowX.resolve_left (by rintro rfl; simp at h0)
              have z0 : X.cell? ⟨ob, oo + m * 3, none⟩ = some (.string z.k) := by have := hoc m z hz 0 _ rfl; simpa using this
              rw [hm] at HOX FTK FSK ⊢
              clear hoc hrowX h0
              by_cases hk : z.k = e.k
              · have hskip := FSK.out z
                rw [hk] at z0
                have HZM : Hid (z ∈ out) := List.mem_of_getElem? hz
                clear hz hlast hm FTK
                go_wp2
                go_quiet (fail)
                have hbY := bdrewN (Below.refl X.heap.size X) nq
                obtain ⟨Y, hY⟩ : ∃ Y, X.drewN nq = Y := ⟨_, rfl⟩
                rw [hY] at hbY ⊢
                have hst4 := hskip Y HZM.out hk hbY
                have hms := HMT.out Y _ _ hst4.out
                clear hY x0 z0 hskip FSK HMT HOX HAX
                go_wp2
                go_roundw
                case rel => exact ⟨N2, out, hst4⟩
                case measure => exact hms
              · have hcond : ∀ y, out.getLast? = some y → y.k ≠ e.k := fun y hy => by rw [hlast] at hy; cases hy; exact hk
                have hq : (z.k.toList == e.k.toList) = false := by rw [beq_eq_false_iff_ne]; exact fun h => hk (Go.Proofs.YtlgcciaebkfnjaaGreatDoor.rc.of_same h)
                clear hz hlast hm hk
                go_wp2
                go_quiet (fail)
                clear z0
                have hbY := bdrewN (Below.refl X.heap.size X) nq
                obtain ⟨Y, hY⟩ : ∃ Y, X.drewN nq = Y := ⟨_, rfl⟩
                rw [hY] at hbY ⊢
                clear hY x0
                have hAY := bstay HAX.out hbY hXl
                have y0 : Y.cell? ⟨w1.heap.size, 0, none⟩ = some (.string e.k) := bcell hAY rfl
                have y1 : Y.cell? ⟨w1.heap.size, 1, none⟩ = some (.string e.v) := bcell hAY rfl
                have y2 : Y.cell? ⟨w1.heap.size, 2, none⟩ = some (.bool e.g) := bcell hAY rfl
                have hbY3 : Below X.heap.size X (Y.alloc (.cells #[.string e.k, .string e.v, .bool e.g] 49)) := hbY.alloc hbY.size _
                obtain ⟨v', Y4, hr, ho, hg, _, hat⟩ := run_append_own_at (P := Tryz.prog) (Y.alloc (.cells #[.string e.k, .string e.v, .bool e.g] 49)) w.heap.size 24 24 49 i0 (.agg #[.string ByteArray.empty, .string ByteArray.empty, .bool false]) 3 40 Tryz.underlying24 hi hz0 hz1 hz2 rfl (by decide) _ (m + 1) (out.flatMap flP.c) (own_below HOX.out hbY3) ⟨Y.heap.size, 0, none⟩ 1 1 [.string e.k, .string e.v, .bool e.g] rfl (fun j u hu => by rw [pap.add0]; exact bcell (bnew Y _ _) (by simpa using hu)) (by intro u hu; simp at hu; rcases hu with rfl | rfl | rfl <;> rfl) (by unfold maxLen; omega) (by omega) (by have := hbY3.size; omega)
                have hst4 := FTK.out _ Y4 v' hcond hbY3 hg ho hat
                have hms := HMT.out Y4 _ v' hst4.out
                clear hAY ho hg hat hbY3 hbY FTK FSK HMT HOX HAX
                go_wp2_with (at_builtin; refine cpr.wpList_append_run rfl _ _ _ _ rfl _ _ _ rfl rfl hr ?_)
                go_roundw
                case rel => exact ⟨N2, out ++ [e], hst4⟩
                case measure => exact hms
end Go.Proofs.YtlgcciaebkfnjaaGreatDoor.rnw

/- The newest pair of a key in a table, and the specification's TableGet. -/
namespace Go.Proofs.YtlgcciaebkfnjaaGreatDoor.tg
open Go.ChangeShapes Go.WideShapes Go.ChangeAt Go.RowKit Go.Proofs.YtlgcciaebkfnjaaGreatDoor.fl Go.Proofs.YtlgcciaebkfnjaaGreatDoor.rn Go.Proofs.YtlgcciaebkfnjaaGreatDoor.rc Go.Proofs.YtlgcciaebkfnjaaGreatDoor.ro Go.Proofs.YtlgcciaebkfnjaaGreatDoor.tk Go.Proofs.YtlgcciaebkfnjaaGreatDoor.pf Go.Proofs.YtlgcciaebkfnjaaGreatDoor.tko
set_option linter.unusedVariables false

def fnd (l : List flP.Pr) (key : ByteArray) : Option flP.Pr := l.find? (fun e => decide (e.k = key))
def p0 : flP.Pr := ⟨⟨#[]⟩, ⟨#[]⟩, false⟩
def nwst (ls : List (List flP.Pr)) (key : ByteArray) : Option flP.Pr := ls.findSome? (fun l => fnd l key)
theorem fnd_at {l : List flP.Pr} {key : ByteArray} {i : Nat} {e : flP.Pr} (hno : ∀ (j : Nat) f, j < i → l[j]? = some f → f.k ≠ key) (hi : l[i]? = some e) (he : e.k = key) : fnd l key = some e := by
  unfold fnd
  rw [List.find?_eq_some_iff_getElem]
  obtain ⟨hlt, h2⟩ := List.getElem?_eq_some_iff.1 hi
  refine ⟨by simpa using he, i, hlt, h2, fun j hj => ?_⟩
  simp
  exact hno j _ hj (List.getElem?_eq_getElem (by omega))
theorem fnd_none {l : List flP.Pr} {key : ByteArray} (hno : ∀ (j : Nat) f, l[j]? = some f → f.k ≠ key) : fnd l key = none := by
  unfold fnd
  rw [List.find?_eq_none]
  intro x hx
  obtain ⟨j, hj⟩ := List.getElem?_of_mem hx
  simpa using hno j x hj

set_option maxRecDepth 100000 in
set_option maxHeartbeats 1000000 in
theorem spec_find (l : List flP.Pr) (a : Option Addr) (cap : Nat) (key : ByteArray) (w : World) (hl : l.length ≤ 1048576) (hS : Row flP.c 3 w w.heap.size a l) :
    Calls Tryz.prog 79 #[.slice a l.length cap, .string key] w fun r w' => r = .returned (.tuple #[.agg #[.string ((fnd l key).getD p0).k, .string ((fnd l key).getD p0).v, .bool ((fnd l key).getD p0).g], .bool (fnd l key).isSome]) ∧ Below w.heap.size w w' := by
  have hb : Below w.heap.size w (w.alloc (.cells #[.string ⟨#[]⟩, .string ⟨#[]⟩, .bool false] 49)) := (Below.refl _ _).alloc (Nat.le_refl _) _
  have hA := bnew w #[.string ⟨#[]⟩, .string ⟨#[]⟩, .bool false] 49
  obtain ⟨W, hW⟩ : ∃ W, w.alloc (.cells #[.string ⟨#[]⟩, .string ⟨#[]⟩, .bool false] 49) = W := ⟨_, rfl⟩
  rw [hW] at hb hA
  have HS : Hid (Row flP.c 3 W W.heap.size a l) := hS.inn hb
  have z0 : W.cell? ⟨w.heap.size, 0, none⟩ = some (.string ⟨#[]⟩) := bcell hA rfl
  have z1 : W.cell? ⟨w.heap.size, 1, none⟩ = some (.string ⟨#[]⟩) := bcell hA rfl
  have z2 : W.cell? ⟨w.heap.size, 2, none⟩ = some (.bool false) := bcell hA rfl
  have z0f := bfree hA 0
  have z1f := bfree hA 1
  have z2f := bfree hA 2
  obtain ⟨F, hF⟩ : ∃ F, fnd l key = F := ⟨_, rfl⟩
  have HF : Hid (fnd l key = F) := hF
  simp only [hF]
  clear hS hA hF
  go_enter Tryz.func79, Tryz.ntmps79
  go_wp2
  clear hW
  go_loopw [6] (fun v wr => ∃ k : Nat, k ≤ l.length ∧ v = .int .i64 k ∧ Hid (∀ (j : Nat) f, j < k → l[j]? = some f → f.k ≠ key) ∧ wr = W) (fun v _ => l.length - (intOf v).toNat)
  case atStart => exact ⟨0, Nat.zero_le _, rfl, fun i a h => by omega, rfl⟩
  case round =>
    obtain ⟨k, hk, rfl, hn, hwr⟩ := hrel
    obtain rfl := hwr.symm
    by_cases hkl : k < l.length
    · rcases HS.out with h0 | ⟨b, off, rfl, hlt, hc⟩
      · rw [h0] at hkl; simp at hkl
      have HG : Hid (l[k]? = some l[k]) := List.getElem?_eq_getElem hkl
      obtain ⟨⟨pk, pv, pg⟩, he⟩ : ∃ e, l[k] = e := ⟨_, rfl⟩
      rw [he] at HG
      have c0 : W.cell? ⟨b, off + k * 3, none⟩ = some (.string pk) := hc k _ HG.out 0 _ rfl
      have c1 : W.cell? ⟨b, off + k * 3 + 1, none⟩ = some (.string pv) := hc k _ HG.out 1 _ rfl
      have c2 : W.cell? ⟨b, off + k * 3 + 2, none⟩ = some (.bool pg) := hc k _ HG.out 2 _ rfl
      have i2 : (k : Int) < (l.length : Int) := by omega
      clear hc he
      by_cases hq : pk = key
      case pos =>
        subst hq
        have HFe : Hid (F = some ⟨pk, pv, pg⟩) := HF.out.symm.trans (fnd_at hn.out HG.out rfl)
        go_wp2
        refine bodyPost_ret (v := .tuple #[.agg #[.string pk, .string pv, .bool pg], .bool true]) (by simp [results, Tryz.results79, go_sem, z0, z1, z2]) rfl ⟨by rw [HFe.out]; rfl, ?_⟩
        exact ((hb.setCell (Nat.le_refl _) _).setCell (Nat.le_refl _) _).setCell (Nat.le_refl _) _
      case neg =>
        have hq2 : (pk.toList == key.toList) = false := by simp; exact fun e => hq (of_same e)
        have hn2 : Hid (∀ (j : Nat) f, j < k + 1 → l[j]? = some f → f.k ≠ key) := fun j f hj h => by
          by_cases ei : j = k
          · subst ei; rw [HG.out] at h; cases h; exact hq
          · exact hn.out j f (by omega) h
        clear hq
        go_wp2
        go_roundw
        case rel => exact ⟨k + 1, by omega, by go_num, hn2, by first | rfl | trivial⟩
        case measure => simp [intOf]; omega
    · obtain rfl : k = l.length := by omega
      have HFe : Hid (F = none) := HF.out.symm.trans (fnd_none (fun j f h => hn.out j f (List.getElem?_eq_some_iff.1 h).1 h))
      clear hkl hk
      go_wp2
      refine bodyPost_ret (v := .tuple #[.agg #[.string ⟨#[]⟩, .string ⟨#[]⟩, .bool false], .bool false]) (by simp [results, Tryz.results79, go_sem, z0, z1, z2]; try rfl) rfl ⟨by rw [HFe.out]; rfl, ?_⟩
      exact ((hb.setCell (Nat.le_refl _) _).setCell (Nat.le_refl _) _).setCell (Nat.le_refl _) _
theorem nw_next {ys : List flP.Pr} {ls : List (List flP.Pr)} {k : Nat} {l : List flP.Pr} {key : ByteArray} (h : ls[k]? = some l) : nwst (ys :: ls.take (k + 1)) key = (nwst (ys :: ls.take k) key).or (fnd l key) := by
  unfold nwst
  have e : ys :: ls.take (k + 1) = (ys :: ls.take k) ++ [l] := by rw [List.take_add_one, h]; simp
  rw [e, List.findSome?_append]
  simp
theorem nw_some {ys : List flP.Pr} {ls : List (List flP.Pr)} {k : Nat} {e : flP.Pr} {key : ByteArray} (h : nwst (ys :: ls.take k) key = some e) : nwst (ys :: ls) key = some e := by
  unfold nwst at *
  have e2 : ys :: ls = (ys :: ls.take k) ++ ls.drop k := by rw [List.cons_append, List.take_append_drop]
  rw [e2, List.findSome?_append, h]
  rfl
/-- on the way through l07Newest -/
structure NW (w1 : World) (n6 : Nat) (c : Option flP.Pr) (X : World) : Prop where
  bel : Below n6 w1 X
  bx : X.heap[n6]? = some (.cells #[.string (c.getD p0).k, .string (c.getD p0).v, .bool (c.getD p0).g] 49 (0, 0))
theorem NW.on {w1 X X' : World} {n6 : Nat} {c : Option flP.Pr} (h : NW w1 n6 c X) (hn : n6 ≤ w1.heap.size) (hb : Below X.heap.size X X') : NW w1 n6 c X' :=
  ⟨h.bel.trans (hb.mono (by have := h.bel.size; omega)), bstay h.bx hb (Array.getElem?_eq_some_iff.1 h.bx).1⟩
theorem NW.put {w1 X : World} {n6 : Nat} {c : Option flP.Pr} (h : NW w1 n6 c X) (d : Option flP.Pr) : NW w1 n6 d (((X.setCell ⟨n6, 0, none⟩ (.string (d.getD p0).k)).setCell ⟨n6, 1, none⟩ (.string (d.getD p0).v)).setCell ⟨n6, 2, none⟩ (.bool (d.getD p0).g)) :=
  ⟨((h.bel.setCell (Nat.le_refl _) _).setCell (Nat.le_refl _) _).setCell (Nat.le_refl _) _, bset (bset (bset h.bx 0 _) 1 _) 2 _⟩

set_option maxRecDepth 100000 in
set_option maxHeartbeats 1000000 in
theorem spec_newest (ys : List flP.Pr) (rs : List Rn) (ya ra : Option Addr) (yc rc : Nat) (key : ByteArray) (w : World) (F : tb.Fit ys rs) (hY : Row flP.c 3 w w.heap.size ya ys) (hR : VR w w.heap.size ra rs) :
    Calls Tryz.prog 85 #[.agg #[.slice ya ys.length yc, .slice ra rs.length rc], .string key] w fun r w' => r = .returned (.tuple #[.agg #[.string ((nwst (ys :: rs.map (·.l)) key).getD p0).k, .string ((nwst (ys :: rs.map (·.l)) key).getD p0).v, .bool ((nwst (ys :: rs.map (·.l)) key).getD p0).g], .bool (nwst (ys :: rs.map (·.l)) key).isSome]) ∧ Below w.heap.size w w' := by
  have hb : Below w.heap.size w ((w.alloc (.cells #[.slice ya ys.length yc, .slice ra rs.length rc] 27)).alloc (.cells #[.string ⟨#[]⟩, .string ⟨#[]⟩, .bool false] 49)) := ((Below.refl _ _).alloc (Nat.le_refl _) _).alloc (by simp) _
  have hA := bold (bnew w #[.slice ya ys.length yc, .slice ra rs.length rc] 27) (.cells #[.string ⟨#[]⟩, .string ⟨#[]⟩, .bool false] 49)
  have hZ := bnew (w.alloc (.cells #[.slice ya ys.length yc, .slice ra rs.length rc] 27)) #[.string ⟨#[]⟩, .string ⟨#[]⟩, .bool false] 49
  rw [World.size_alloc] at hZ
  obtain ⟨W, hW⟩ : ∃ W, (w.alloc (.cells #[.slice ya ys.length yc, .slice ra rs.length rc] 27)).alloc (.cells #[.string ⟨#[]⟩, .string ⟨#[]⟩, .bool false] 49) = W := ⟨_, rfl⟩
  rw [hW] at hb hA hZ
  have HA : Hid (W.heap[w.heap.size]? = some (.cells #[.slice ya ys.length yc, .slice ra rs.length rc] 27 (0, 0))) := hA
  have HZ : Hid (W.heap[w.heap.size + 1]? = some (.cells #[.string ⟨#[]⟩, .string ⟨#[]⟩, .bool false] 49 (0, 0))) := hZ
  have la := (Array.getElem?_eq_some_iff.1 hA).1
  have lz := (Array.getElem?_eq_some_iff.1 hZ).1
  have hfy := spec_find ys ya yc key W F.yl (hY.inn hb)
  have HVR : Hid (VR W W.heap.size ra rs) := hR.inn hb
  have HF : Hid (tb.Fit ys rs) := F
  have hrl := F.rl
  have x0 : W.cell? ⟨w.heap.size, 0, none⟩ = some (.slice ya ys.length yc) := bcell hA rfl
  obtain ⟨NV, hNV⟩ : ∃ NV, nwst (ys :: rs.map (·.l)) key = NV := ⟨_, rfl⟩
  have HNV : Hid (nwst (ys :: rs.map (·.l)) key = NV) := hNV
  simp only [hNV]
  have hc0 : fnd ys key = nwst (ys :: (rs.map (·.l)).take 0) key := by
    unfold nwst
    simp only [List.take_zero, List.findSome?_cons, List.findSome?_nil]
    cases fnd ys key <;> rfl
  rw [hc0] at hfy
  clear hY hR hA hZ F hNV hc0
  go_enter Tryz.func85, Tryz.ntmps85
  go_wp2_with (go_at_call 79; fail)
  clear hW x0
  refine hfy.mono ?_
  rintro e w1 ⟨rfl, hb1⟩
  obtain ⟨c0, hc0⟩ : ∃ c0, nwst (ys :: (rs.map (·.l)).take 0) key = c0 := ⟨_, rfl⟩
  have HC0 : Hid (nwst (ys :: (rs.map (·.l)).take 0) key = c0) := hc0
  rw [hc0]
  have hs1 := hb1.size
  have hnw0 : NW w1 w1.heap.size c0 (w1.alloc (.cells #[.string (c0.getD p0).k, .string (c0.getD p0).v, .bool (c0.getD p0).g] 49)) := ⟨(Below.refl _ _).alloc (Nat.le_refl _) _, bnew w1 _ _⟩
  have HA1 : Hid (w1.heap[w.heap.size]? = some (.cells #[.slice ya ys.length yc, .slice ra rs.length rc] 27 (0, 0))) := bstay HA.out hb1 la
  have HZ1 : Hid (w1.heap[w.heap.size + 1]? = some (.cells #[.string ⟨#[]⟩, .string ⟨#[]⟩, .bool false] 49 (0, 0))) := bstay HZ.out hb1 lz
  have HV1 : Hid (VR w1 w1.heap.size ra rs) := HVR.out.inn hb1
  have HN0 : Hid (NW w1 w1.heap.size c0 (w1.alloc (.cells #[.string (c0.getD p0).k, .string (c0.getD p0).v, .bool (c0.getD p0).g] 49))) := hnw0
  have hbw1 : Below w.heap.size w w1 := hb.trans (hb1.mono hb.size)
  obtain ⟨X, hX⟩ : ∃ X, w1.alloc (.cells #[.string (c0.getD p0).k, .string (c0.getD p0).v, .bool (c0.getD p0).g] 49) = X := ⟨_, rfl⟩
  rw [hX] at HN0
  have la1 := (Array.getElem?_eq_some_iff.1 HA1.out).1
  have lz1 := (Array.getElem?_eq_some_iff.1 HZ1.out).1
  clear hfy hc0 hnw0 HVR HA HZ
  go_wp2
  clear hX
  go_loopw [7, 8] (fun o v wr => ∃ (k : Nat) (c : Option flP.Pr), k ≤ rs.length ∧ v = .int .i64 k ∧ o = .bool c.isSome ∧ Hid (nwst (ys :: (rs.map (·.l)).take k) key = c) ∧ Hid (NW w1 w1.heap.size c wr)) (fun _ v _ => rs.length - (intOf v).toNat)
  case atStart => exact ⟨0, c0, Nat.zero_le _, rfl, rfl, HC0, HN0⟩
  case round =>
    obtain ⟨k, c, hk, rfl, rfl, hc, hnw⟩ := hrel
    clear HN0
    have x1 : wr.cell? ⟨w.heap.size, 1, none⟩ = some (.slice ra rs.length rc) := bcell (bstay HA1.out hnw.out.bel la1) rfl
    have p00 : wr.cell? ⟨w1.heap.size, 0, none⟩ = some (.string (c.getD p0).k) := bcell hnw.out.bx rfl
    have p01 : wr.cell? ⟨w1.heap.size, 1, none⟩ = some (.string (c.getD p0).v) := bcell hnw.out.bx rfl
    have p02 : wr.cell? ⟨w1.heap.size, 2, none⟩ = some (.bool (c.getD p0).g) := bcell hnw.out.bx rfl
    have hend : (nwst (ys :: rs.map (·.l)) key = c) → ∀ wr, NW w1 w1.heap.size c wr → wr.cell? ⟨w.heap.size + 1, 0, none⟩ = some (.string ⟨#[]⟩) ∧ wr.cell? ⟨w.heap.size + 1, 1, none⟩ = some (.string ⟨#[]⟩) ∧ wr.cell? ⟨w.heap.size + 1, 2, none⟩ = some (.bool false) ∧ wr.frozen? ⟨w.heap.size + 1, 0, none⟩ = false ∧ wr.frozen? ⟨w.heap.size + 1, 1, none⟩ = false ∧ wr.frozen? ⟨w.heap.size + 1, 2, none⟩ = false := fun _ wr h => by
      have hz := bstay HZ1.out h.bel lz1
      exact ⟨bcell hz rfl, bcell hz rfl, bcell hz rfl, bfree hz 0, bfree hz 1, bfree hz 2⟩
    have HEND : Hid ((nwst (ys :: rs.map (·.l)) key = c) → ∀ wr, NW w1 w1.heap.size c wr → wr.cell? ⟨w.heap.size + 1, 0, none⟩ = some (.string ⟨#[]⟩) ∧ wr.cell? ⟨w.heap.size + 1, 1, none⟩ = some (.string ⟨#[]⟩) ∧ wr.cell? ⟨w.heap.size + 1, 2, none⟩ = some (.bool false) ∧ wr.frozen? ⟨w.heap.size + 1, 0, none⟩ = false ∧ wr.frozen? ⟨w.heap.size + 1, 1, none⟩ = false ∧ wr.frozen? ⟨w.heap.size + 1, 2, none⟩ = false) := hend
    clear hend
    by_cases hkl : k < rs.length
    · cases hcc : c with
      | none =>
        subst hcc
        have hvr := HV1.out
        rcases hvr.1 with h0 | ⟨b, off, rfl, hlt, hcl⟩
        · rw [h0] at hkl; simp at hkl
        have HG : Hid (rs[k]? = some rs[k]) := List.getElem?_eq_getElem hkl
        have hrow := hvr.2 rs[k] (List.getElem_mem hkl)
        have hfr := (HF.out.ro rs[k] (List.getElem_mem hkl)).1
        obtain ⟨⟨qa, qc, ql⟩, he⟩ : ∃ e, rs[k] = e := ⟨_, rfl⟩
        rw [he] at HG hrow hfr
        have hbel : Below w1.heap.size w1 wr := hnw.out.bel
        have q0 : wr.cell? ⟨b, off + k, none⟩ = some (.slice qa ql.length qc) := (hbel.cell (p := ⟨b, off + k, none⟩) hlt).trans (by have := hcl k _ HG.out 0 _ rfl; simpa using this)
        have hone := spec_find ql qa qc key wr hfr (hrow.inn hbel)
        have HNX : Hid (nwst (ys :: (rs.map (·.l)).take (k + 1)) key = fnd ql key) := by
          unfold Hid
          rw [nw_next (map_at HG.out), hc.out]
          rfl
        have i2 : (k : Int) < (rs.length : Int) := by omega
        clear hvr hcl he hrow hfr HEND
        go_wp2_with (go_at_call 79; fail)
        refine hone.mono ?_
        rintro e w2 ⟨rfl, hb2⟩
        have hnw2 := hnw.out.on (Nat.le_refl _) hb2
        obtain ⟨d, hd⟩ : ∃ d, fnd ql key = d := ⟨_, rfl⟩
        rw [hd] at HNX ⊢
        have HP : Hid (NW w1 w1.heap.size d (((w2.setCell ⟨w1.heap.size, 0, none⟩ (.string (d.getD p0).k)).setCell ⟨w1.heap.size, 1, none⟩ (.string (d.getD p0).v)).setCell ⟨w1.heap.size, 2, none⟩ (.bool (d.getD p0).g))) := hnw2.put d
        have r0 : ∃ v, w2.cell? ⟨w1.heap.size, 0, none⟩ = some v := ⟨_, bcell hnw2.bx rfl⟩
        have r1 : ∃ v, w2.cell? ⟨w1.heap.size, 1, none⟩ = some v := ⟨_, bcell hnw2.bx rfl⟩
        have r2 : ∃ v, w2.cell? ⟨w1.heap.size, 2, none⟩ = some v := ⟨_, bcell hnw2.bx rfl⟩
        obtain ⟨v0, r0⟩ := r0
        obtain ⟨v1, r1⟩ := r1
        obtain ⟨v2, r2⟩ := r2
        have f0 := bfree hnw2.bx 0
        have f1 := bfree hnw2.bx 1
        have f2 := bfree hnw2.bx 2
        clear hone hd hnw2 x1 p00 p01 p02 q0 hbel
        go_wp2
        go_roundw
        case rel => exact ⟨k + 1, d, by omega, by go_num, rfl, HNX, HP⟩
        case measure => simp [intOf]; omega
      | some e =>
        subst hcc
        have hfin : nwst (ys :: rs.map (·.l)) key = some e := nw_some hc.out
        have HFIN : Hid (NV = some e) := HNV.out.symm.trans hfin
        obtain ⟨z0, z1, z2, g0, g1, g2⟩ := HEND.out hfin wr hnw.out
        have i2 : (k : Int) < (rs.length : Int) := by omega
        have hbel : Below w1.heap.size w1 wr := hnw.out.bel
        have p00 : wr.cell? ⟨w1.heap.size, 0, none⟩ = some (.string e.k) := p00
        have p01 : wr.cell? ⟨w1.heap.size, 1, none⟩ = some (.string e.v) := p01
        have p02 : wr.cell? ⟨w1.heap.size, 2, none⟩ = some (.bool e.g) := p02
        clear hfin HEND
        go_wp2
        refine bodyPost_ret (v := .tuple #[.agg #[.string e.k, .string e.v, .bool e.g], .bool true]) (by simp [results, Tryz.results85, go_sem, z0, z1, z2]) rfl ⟨by rw [HFIN.out]; rfl, ?_⟩
        exact (((hbw1.trans (hbel.mono hbw1.size)).setCell (Nat.le_succ _) _).setCell (Nat.le_succ _) _).setCell (Nat.le_succ _) _
    · obtain rfl : k = rs.length := by omega
      have hfin : nwst (ys :: rs.map (·.l)) key = c := by have := hc.out; rw [List.take_of_length_le (by simp)] at this; exact this
      have HFIN : Hid (NV = c) := HNV.out.symm.trans hfin
      obtain ⟨z0, z1, z2, g0, g1, g2⟩ := HEND.out hfin wr hnw.out
      have hbel : Below w1.heap.size w1 wr := hnw.out.bel
      obtain ⟨⟨ek, ev, eg⟩, he⟩ : ∃ e, c.getD p0 = e := ⟨_, rfl⟩
      rw [he] at p00 p01 p02
      have HE : Hid (c.getD p0 = ⟨ek, ev, eg⟩) := he
      have p00 : wr.cell? ⟨w1.heap.size, 0, none⟩ = some (.string ek) := p00
      have p01 : wr.cell? ⟨w1.heap.size, 1, none⟩ = some (.string ev) := p01
      have p02 : wr.cell? ⟨w1.heap.size, 2, none⟩ = some (.bool eg) := p02
      clear hfin HEND hkl hk he
      go_wp2
      refine bodyPost_ret (v := .tuple #[.agg #[.string ek, .string ev, .bool eg], .bool c.isSome]) (by simp [results, Tryz.results85, go_sem, z0, z1, z2]) rfl ⟨by rw [HFIN.out, HE.out], ?_⟩
      exact (((hbw1.trans (hbel.mono hbw1.size)).setCell (Nat.le_succ _) _).setCell (Nat.le_succ _) _).setCell (Nat.le_succ _) _
end Go.Proofs.YtlgcciaebkfnjaaGreatDoor.tg
