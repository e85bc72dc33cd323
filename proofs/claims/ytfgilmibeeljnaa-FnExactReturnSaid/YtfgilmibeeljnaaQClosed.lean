/- An open queue closed: what was in the heap, in order. -/
import Derived.Test.YtfgilmibeeljnaaQOpen
import Derived.Test.YtfgilmibeeljnaaQueueAll
import Derived.Test.YtfgilmibeeljnaaCopyRows
namespace Go.Proofs.Ytfgilmibeeljnaa.qcl
open Go.ChangeShapes Go.WideShapes Go.ChangeAt Go.RowKit Go.Proofs.Ytfgilmibeeljnaa.fl Go.Proofs.Ytfgilmibeeljnaa.qit Go.Proofs.Ytfgilmibeeljnaa.qst Go.Proofs.Ytfgilmibeeljnaa.qpu Go.Proofs.Ytfgilmibeeljnaa.qpo Go.Proofs.Ytfgilmibeeljnaa.qop
set_option linter.unusedVariables false

def Le (a b : flM.Ms) : Prop := a.q ≤ b.q
/-- what stands while the heap is emptied: the row r holds R, the heap M -/
structure St (W0 : World) (Q : Qx) (hb g cap : Nat) (L : List flM.Ms) (w : World) (B : Nat) (v : Value) (R M : List flM.Ms) (wr : World) : Prop where
  sg : SG W0 hb Q g cap M wr
  kq : Kq hb g w wr
  hp : hp.Heap less M M.length
  pm : (R ++ M).Perm L
  so : R.Pairwise Le
  lo : ∀ a ∈ R, ∀ b ∈ M, Le a b
  ow : wr.ownsRow B 38 5 v R.length (R.flatMap flM.c)
theorem St.step {W0 : World} {Q : Qx} {hb g cap B : Nat} {L R M M' : List flM.Ms} {w wr : World} {v : Value} {r : flM.Ms} (h : St W0 Q hb g cap L w B v R M wr) (h0 : M[0]? = some r) (hp' : (r :: M').Perm M) : (R ++ [r] ++ M').Perm L ∧ (R ++ [r]).Pairwise Le ∧ ∀ a ∈ R ++ [r], ∀ b ∈ M', Le a b := by
  have hr : r ∈ M := List.mem_of_getElem? h0
  have hmin : ∀ b ∈ M, Le r b := fun b hb => by
    obtain ⟨i, hi⟩ := List.mem_iff_getElem?.1 hb
    have := h.hp.head ord (Nat.le_refl _) i (List.getElem?_eq_some_iff.1 hi).1 r b h0 hi
    simp only [less, decide_eq_false_iff_not] at this
    unfold Le
    omega
  refine ⟨?_, List.pairwise_append.2 ⟨h.so, List.pairwise_singleton _ _, fun a ha b hb => by rw [List.mem_singleton] at hb; subst hb; exact h.lo a ha _ hr⟩, fun a ha b hb => ?_⟩
  · rw [List.append_assoc]
    exact (List.Perm.append_left R hp').trans h.pm
  · have hbM : b ∈ M := hp'.mem_iff.1 (List.mem_cons_of_mem _ hb)
    rcases List.mem_append.1 ha with ha | ha
    · exact h.lo a ha b hbM
    · rw [List.mem_singleton] at ha; subst ha; exact hmin b hbM
theorem made0 (w : World) (n B : Nat) (hB : B ≤ w.heap.size) (hn : n ≤ 1048576) : (w.alloc (.cells (madeCells #[.int .i64 0, .string ByteArray.empty, .string ByteArray.empty, .string ByteArray.empty, .bool false] (n * 5)) 38)).ownsRow B 38 5 (.slice (some ⟨w.heap.size, 0, none⟩) 0 n) 0 [] :=
  ⟨by simp, .inr ⟨w.heap.size, n, _, rfl, hB, bnew w _ _, Nat.zero_le _, by unfold maxLen; omega, size_madeCells _ _, by simp⟩⟩
theorem make0 (W : World) (n : Nat) (hn : n ≤ 1048576) : (Instr.makeSlice 27 (.int .i64 0) (.int .i64 (n : Int))).run Try.prog W = .ok (.slice (some ⟨W.heap.size, 0, none⟩) 0 n) (W.alloc (.cells (madeCells #[.int .i64 0, .string ByteArray.empty, .string ByteArray.empty, .string ByteArray.empty, .bool false] (n * 5)) 38)) := by
  obtain ⟨i0, hi, hz0, hz1, hz2⟩ := qa.infoM
  have hmk := run_makeSlice (P := Try.prog) W 27 38 i0 _ Try.underlying27 hi hz0 .i64 .i64 (0 : Int) (n : Int) (by omega) (by omega) (by rw [hz1]; simp; omega) (by rw [hz2]; omega) (by omega)
  rw [hz1, show ((n : Int)).toNat = n by omega] at hmk
  exact hmk

def lenOf : Value → Nat
  | .slice _ n _ => n
  | _ => 0
theorem own_block {w w' : World} {B n m : Nat} {U : TypeId} {v : Value} {xs : List Value} (h : w.ownsRow B U n v m xs) (hb : ∀ g, v.ownBlock = some g → w'.heap[g]? = w.heap[g]?) : w'.ownsRow B U n v m xs := by
  obtain ⟨h1, h2 | ⟨g, cap, cur, h3, h4, h5, h6⟩⟩ := h
  · exact ⟨h1, .inl h2⟩
  · exact ⟨h1, .inr ⟨g, cap, cur, h3, h4, (hb g (by rw [h3]; rfl)).trans h5, h6⟩⟩
theorem blk_eq {gr n c k : Nat} (h : (Value.slice (some ⟨gr, 0, none⟩) n c).ownBlock = some k) : gr = k := by simpa [Value.ownBlock] using h
theorem sg_below {W0 : World} {hb g cap B : Nat} {Q : Qx} {L : List flM.Ms} {w w' : World} (h : SG W0 hb Q g cap L w) (hb' : Below B w w') (h1 : hb < B) (h2 : g < B) (h3 : W0.heap.size ≤ B) : SG W0 hb Q g cap L w' :=
  ⟨h.bel.trans (hb'.mono h3), h.hbB, h.gB, h.ne, (hb'.block hb h1).trans h.box, h.row.below (hb'.block g h2), h.fits⟩
theorem kq_below {hb g B : Nat} {a w w' : World} (h : Kq hb g a w) (hb' : Below B w w') (h1 : a.heap.size ≤ B) : Kq hb g a w' :=
  ⟨hb'.os.trans h.os, hb'.tape.trans h.tape, hb'.output.trans h.output, Nat.le_trans h.size hb'.size, fun k hk h2 h3 => (hb'.block k (Nat.lt_of_lt_of_le hk h1)).trans (h.block k hk h2 h3)⟩

def wz (hb gr cr n : Nat) (Q : Qx) : List (Nat × Value) := [(21, .pointer (some ⟨hb, 0, none⟩)), (22, .pointer (some ⟨hb, 0, none⟩)), (23, .pointer (some ⟨hb, 1, none⟩)), (24, .string Q.nm), (25, .pointer (some ⟨hb, 0, none⟩)), (26, .pointer (some ⟨hb, 0, none⟩)), (27, .pointer (some ⟨hb, 2, none⟩)), (28, .int .i64 Q.nx), (29, .slice (some ⟨gr, 0, none⟩) n cr), (30, .pointer (some ⟨hb, 0, none⟩)), (31, .pointer (some ⟨hb, 0, none⟩)), (32, .pointer (some ⟨hb, 3, none⟩)), (33, .slice Q.ha Q.hn Q.hc), (34, .agg #[.string Q.nm, .int .i64 Q.nx, .slice (some ⟨gr, 0, none⟩) n cr, .slice Q.ha Q.hn Q.hc])]
def set4 (w : World) (b : Nat) (x0 x1 x2 x3 : Value) : World := (((w.setCell ⟨b, 0, none⟩ x0).setCell ⟨b, 1, none⟩ x1).setCell ⟨b, 2, none⟩ x2).setCell ⟨b, 3, none⟩ x3
def Dz (hb gr cr n g m cap rb : Nat) (Q : Qx) (Y : World) (b : Bool) (W : World) : Prop := W.heap[hb]? = some (.cells #[.slice (some ⟨g, 0, none⟩) m cap, .string Q.nm, .int .i64 Q.nx, .slice Q.ha Q.hn Q.hc] 58 (0, 0)) ∧ W = if b then set4 Y rb (.string Q.nm) (.int .i64 Q.nx) (.slice (some ⟨gr, 0, none⟩) n cr) (.slice Q.ha Q.hn Q.hc) else Y

set_option maxRecDepth 100000 in
set_option maxHeartbeats 2000000 in
theorem closed_run (W0 : World) (Q : Qx) (hb g cap : Nat) (L : List flM.Ms) (w : World) (hS : SG W0 hb Q g cap L w) (hl : L.length ≤ 900) (hH : hp.Heap less L L.length) :
    Calls Try.prog 32 #[.pointer (some ⟨hb, 0, none⟩)] w fun e w' => ∃ (R : List flM.Ms) (gr cr : Nat), e = .returned (.agg #[.string Q.nm, .int .i64 Q.nx, .slice (some ⟨gr, 0, none⟩) R.length cr, .slice Q.ha Q.hn Q.hc]) ∧ R.Perm L ∧ R.Pairwise Le ∧ w'.ownsRow w.heap.size 38 5 (.slice (some ⟨gr, 0, none⟩) R.length cr) R.length (R.flatMap flM.c) ∧ Kq hb g w w' := by
  have hgl : g < w.heap.size := by obtain ⟨cur, h1, _⟩ := hS.row; exact (Array.getElem?_eq_some_iff.1 h1).1
  have hbl : hb < w.heap.size := (Array.getElem?_eq_some_iff.1 hS.box).1
  have hWB : W0.heap.size ≤ w.heap.size := hS.bel.size
  have hal : Below w.heap.size w (w.alloc (.cells #[.string ⟨#[]⟩, .int .i64 0, .slice none 0 0, .slice none 0 0] 30)) := (Below.refl _ _).alloc (Nat.le_refl _) _
  have hZ := bnew w #[.string ⟨#[]⟩, .int .i64 0, .slice none 0 0, .slice none 0 0] 30
  obtain ⟨X, hX⟩ : ∃ X, w.alloc (.cells #[.string ⟨#[]⟩, .int .i64 0, .slice none 0 0, .slice none 0 0] 30) = X := ⟨_, rfl⟩
  have hXs : X.heap.size = w.heap.size + 1 := by rw [← hX]; simp
  rw [hX] at hal hZ
  have hbx : X.cell? ⟨hb, 0, none⟩ = some (.slice (some ⟨g, 0, none⟩) L.length cap) := bcell (hS.on hal).box rfl
  have hmk := make0 X L.length (by omega)
  have hal2 : Below X.heap.size X (X.alloc (.cells (madeCells #[.int .i64 0, .string ByteArray.empty, .string ByteArray.empty, .string ByteArray.empty, .bool false] (L.length * 5)) 38)) := (Below.refl _ _).alloc (Nat.le_refl _) _
  have how := made0 X L.length (w.heap.size + 1) (by omega) (by omega)
  have hZ2 := bold hZ (.cells (madeCells #[.int .i64 0, .string ByteArray.empty, .string ByteArray.empty, .string ByteArray.empty, .bool false] (L.length * 5)) 38)
  obtain ⟨Y, hY⟩ : ∃ Y, X.alloc (.cells (madeCells #[.int .i64 0, .string ByteArray.empty, .string ByteArray.empty, .string ByteArray.empty, .bool false] (L.length * 5)) 38) = Y := ⟨_, rfl⟩
  rw [hY] at hmk hal2 how hZ2
  have hwY : Below w.heap.size w Y := hal.trans (hal2.mono hal.size)
  have HS0 : Hid (St W0 Q hb g cap L w (w.heap.size + 1) (.slice (some ⟨X.heap.size, 0, none⟩) 0 L.length) [] L Y) := ⟨(hS.on hal).on hal2, ⟨hwY.os, hwY.tape, hwY.output, hwY.size, fun k hk _ _ => hwY.block k hk⟩, hH, List.Perm.refl _, List.Pairwise.nil, fun a ha => (by cases ha), how⟩
  have HZ0 : Hid (Y.heap[w.heap.size]? = some (.cells #[.string ⟨#[]⟩, .int .i64 0, .slice none 0 0, .slice none 0 0] 30 (0, 0))) := hZ2
  clear hS hH hal hal2 how hZ hZ2 hwY
  go_enter Try.func32, Try.ntmps32
  go_wp2_with (go_at_call 65; refine (len_run _ _ _ _).mono ?_; rintro e w0 ⟨rfl, hw0⟩; rw [← hw0]; clear hw0 w0)
  clear hX hY hmk hbx
  go_loopw [3] (fun v wr => ∃ (R M : List flM.Ms) (gr cr : Nat), v = .slice (some ⟨gr, 0, none⟩) R.length cr ∧ Hid (St W0 Q hb g cap L w (w.heap.size + 1) (.slice (some ⟨gr, 0, none⟩) R.length cr) R M wr ∧ wr.heap[w.heap.size]? = some (.cells #[.string ⟨#[]⟩, .int .i64 0, .slice none 0 0, .slice none 0 0] 30 (0, 0)))) (fun v _ => L.length - lenOf v)
  case atStart => exact ⟨[], L, X.heap.size, L.length, by rw [hXs]; rfl, HS0.out, HZ0.out⟩
  case round =>
    obtain ⟨R, M, gr, cr, rfl, hst⟩ := hrel
    clear HS0 HZ0
    obtain ⟨hs, hz⟩ := hst.out
    have hbx : wr.cell? ⟨hb, 0, none⟩ = some (.slice (some ⟨g, 0, none⟩) M.length cap) := bcell hs.sg.box rfl
    have hln := hs.pm.length_eq
    rw [List.length_append] at hln
    cases hM : M with
    | nil =>
      subst hM
      have b1 : wr.cell? ⟨hb, 1, none⟩ = some (.string Q.nm) := bcell hs.sg.box rfl
      have b2 : wr.cell? ⟨hb, 2, none⟩ = some (.int .i64 Q.nx) := bcell hs.sg.box rfl
      have b3 : wr.cell? ⟨hb, 3, none⟩ = some (.slice Q.ha Q.hn Q.hc) := bcell hs.sg.box rfl
      have z0 : wr.cell? ⟨w.heap.size, 0, none⟩ = some (.string ⟨#[]⟩) := bcell hz rfl
      have z1 : wr.cell? ⟨w.heap.size, 1, none⟩ = some (.int .i64 0) := bcell hz rfl
      have z2 : wr.cell? ⟨w.heap.size, 2, none⟩ = some (.slice none 0 0) := bcell hz rfl
      have z3 : wr.cell? ⟨w.heap.size, 3, none⟩ = some (.slice none 0 0) := bcell hz rfl
      have f0 := bfree hz 0
      have f1 := bfree hz 1
      have f2 := bfree hz 2
      have f3 := bfree hz 3
      have hbx : wr.cell? ⟨hb, 0, none⟩ = some (.slice (some ⟨g, 0, none⟩) 0 cap) := hbx
      have HF : Hid (R.Perm L ∧ R.Pairwise Le ∧ wr.ownsRow (w.heap.size + 1) 38 5 (.slice (some ⟨gr, 0, none⟩) R.length cr) R.length (R.flatMap flM.c) ∧ Kq hb g w wr) := ⟨by simpa using hs.pm, hs.so, hs.ow, hs.kq⟩
      have hgr : w.heap.size + 1 ≤ gr := (hs.ow.lt gr rfl).1
      have HBX : Hid (wr.heap[hb]? = some (.cells #[.slice (some ⟨g, 0, none⟩) 0 cap, .string Q.nm, .int .i64 Q.nx, .slice Q.ha Q.hn Q.hc] 58 (0, 0))) := hs.sg.box
      clear hs hz hst
      go_wp2_with (go_at_call 65; refine (len_run _ _ _ _).mono ?_; rintro e w0 ⟨rfl, hw0⟩; rw [← hw0]; clear hw0 w0)
      obtain ⟨V, hV⟩ : ∃ V, wr.drew = V := ⟨_, rfl⟩
      have e0 : V.cell? ⟨w.heap.size, 0, none⟩ = some (.string ⟨#[]⟩) := by rw [← hV]; exact z0
      have e1 : V.cell? ⟨w.heap.size, 1, none⟩ = some (.int .i64 0) := by rw [← hV]; exact z1
      have e2 : V.cell? ⟨w.heap.size, 2, none⟩ = some (.slice none 0 0) := by rw [← hV]; exact z2
      have e3 : V.cell? ⟨w.heap.size, 3, none⟩ = some (.slice none 0 0) := by rw [← hV]; exact z3
      have k0 : V.frozen? ⟨w.heap.size, 0, none⟩ = false := by rw [← hV]; exact f0
      have k1 : V.frozen? ⟨w.heap.size, 1, none⟩ = false := by rw [← hV]; exact f1
      have k2 : V.frozen? ⟨w.heap.size, 2, none⟩ = false := by rw [← hV]; exact f2
      have k3 : V.frozen? ⟨w.heap.size, 3, none⟩ = false := by rw [← hV]; exact f3
      have HVB : Hid (Below wr.heap.size wr V) := by unfold Hid; rw [← hV]; exact (Below.refl _ _).drew
      refine dk.region_sets (wz hb gr cr R.length Q) [21, 22, 23, 24, 25, 26, 27, 28, 29, 30, 31, 32, 33, 34] (dk.Cl (Dz hb gr cr R.length g 0 cap w.heap.size Q V) 14) (by kernel_rfl) (by kernel_rfl) rfl (by kernel_rfl) ⟨(by rw [hV]; exact (HVB.out.block hb (Array.getElem?_eq_some_iff.1 HBX.out).1).trans HBX.out), hV⟩ ?each ?fin
      case each =>
        refine ⟨dk.q (by decide) (Value.pointer (some ⟨hb, 0, none⟩)) (by rintro _ ⟨⟩; exact dk.sets_on _ (by simp) _ rfl) (fun b W h => by simp [execOp, go_sem, Act.eval, dk.sets_get, wz, List.lookup]), ?_⟩
        refine ⟨dk.q (by decide) (Value.pointer (some ⟨hb, 0, none⟩)) (by rintro _ ⟨⟩; exact dk.sets_on _ (by simp) _ rfl) (fun b W h => by simp [execOp, go_sem, Act.eval, dk.sets_get, wz, List.lookup]), ?_⟩
        refine ⟨dk.q (by decide) (.pointer (some ⟨hb, 1, none⟩)) (by rintro _ ⟨⟩; exact dk.sets_on _ (by simp) _ rfl) (fun b W h => by simp [execOp, go_sem, Act.eval, dk.sets_get, wz, List.lookup]), ?_⟩
        refine ⟨dk.q (by decide) (.string Q.nm) (by rintro _ ⟨⟩; exact dk.sets_on _ (by simp) _ rfl) (fun b W h => by have c : W.cell? ⟨hb, 1, none⟩ = some (.string Q.nm) := bcell h.1 rfl; simp [execOp, go_sem, Act.eval, dk.sets_get, wz, List.lookup, c]), ?_⟩
        refine ⟨dk.q (by decide) (Value.pointer (some ⟨hb, 0, none⟩)) (by rintro _ ⟨⟩; exact dk.sets_on _ (by simp) _ rfl) (fun b W h => by simp [execOp, go_sem, Act.eval, dk.sets_get, wz, List.lookup]), ?_⟩
        refine ⟨dk.q (by decide) (Value.pointer (some ⟨hb, 0, none⟩)) (by rintro _ ⟨⟩; exact dk.sets_on _ (by simp) _ rfl) (fun b W h => by simp [execOp, go_sem, Act.eval, dk.sets_get, wz, List.lookup]), ?_⟩
        refine ⟨dk.q (by decide) (.pointer (some ⟨hb, 2, none⟩)) (by rintro _ ⟨⟩; exact dk.sets_on _ (by simp) _ rfl) (fun b W h => by simp [execOp, go_sem, Act.eval, dk.sets_get, wz, List.lookup]), ?_⟩
        refine ⟨dk.q (by decide) (.int .i64 Q.nx) (by rintro _ ⟨⟩; exact dk.sets_on _ (by simp) _ rfl) (fun b W h => by have c : W.cell? ⟨hb, 2, none⟩ = some (.int .i64 Q.nx) := bcell h.1 rfl; simp [execOp, go_sem, Act.eval, dk.sets_get, wz, List.lookup, c]), ?_⟩
        refine ⟨dk.q (by decide) (.slice (some ⟨gr, 0, none⟩) R.length cr) (by rintro _ ⟨⟩; exact dk.sets_on _ (by simp) _ rfl) (fun b W h => by simp [execOp, go_sem, Act.eval, dk.sets_get, wz, List.lookup]), ?_⟩
        refine ⟨dk.q (by decide) (Value.pointer (some ⟨hb, 0, none⟩)) (by rintro _ ⟨⟩; exact dk.sets_on _ (by simp) _ rfl) (fun b W h => by simp [execOp, go_sem, Act.eval, dk.sets_get, wz, List.lookup]), ?_⟩
        refine ⟨dk.q (by decide) (Value.pointer (some ⟨hb, 0, none⟩)) (by rintro _ ⟨⟩; exact dk.sets_on _ (by simp) _ rfl) (fun b W h => by simp [execOp, go_sem, Act.eval, dk.sets_get, wz, List.lookup]), ?_⟩
        refine ⟨dk.q (by decide) (.pointer (some ⟨hb, 3, none⟩)) (by rintro _ ⟨⟩; exact dk.sets_on _ (by simp) _ rfl) (fun b W h => by simp [execOp, go_sem, Act.eval, dk.sets_get, wz, List.lookup]), ?_⟩
        refine ⟨dk.q (by decide) (.slice Q.ha Q.hn Q.hc) (by rintro _ ⟨⟩; exact dk.sets_on _ (by simp) _ rfl) (fun b W h => by have c : W.cell? ⟨hb, 3, none⟩ = some (.slice Q.ha Q.hn Q.hc) := bcell h.1 rfl; simp [execOp, go_sem, Act.eval, dk.sets_get, wz, List.lookup, c]), ?_⟩
        refine ⟨dk.q (by decide) (.agg #[.string Q.nm, .int .i64 Q.nx, .slice (some ⟨gr, 0, none⟩) R.length cr, .slice Q.ha Q.hn Q.hc]) (by rintro _ ⟨⟩; exact dk.sets_on _ (by simp) _ rfl) (fun b W h => by simp [execOp, go_sem, Act.eval, dk.sets_get, wz, List.lookup]), ?_⟩
        refine ⟨dk.last rfl (fun W h => ?_), trivial⟩
        obtain ⟨h1, h2⟩ := h
        have h2 : W = V := h2
        rw [h2] at h1 ⊢
        clear h2
        refine ⟨set4 V w.heap.size (.string Q.nm) (.int .i64 Q.nx) (.slice (some ⟨gr, 0, none⟩) R.length cr) (.slice Q.ha Q.hn Q.hc), by simp [execOp, go_sem, Act.eval, dk.sets_get, wz, List.lookup, e0, e1, e2, e3, k0, k1, k2, k3, set4], ?_, rfl⟩
        unfold set4
        exact boff (boff (boff (boff h1 _ _ _ (by omega)) _ _ _ (by omega)) _ _ _ (by omega)) _ _ _ (by omega)
      case fin =>
        intro L' W hL hC
        have hC' : W = set4 V w.heap.size (.string Q.nm) (.int .i64 Q.nx) (.slice (some ⟨gr, 0, none⟩) R.length cr) (.slice Q.ha Q.hn Q.hc) := by
          have := hL 14 (by decide)
          unfold dk.Cl at hC
          rw [this] at hC
          exact hC.2
        subst hC'
        clear hC hL
        simp only [dk.sets, wz, set4]
        go_wp2
        refine bodyPost_ret (v := .agg #[.string Q.nm, .int .i64 Q.nx, .slice (some ⟨gr, 0, none⟩) R.length cr, .slice Q.ha Q.hn Q.hc]) (by simp [results, Try.results32, go_sem, e0, e1, e2, e3]) rfl ⟨R, gr, cr, rfl, HF.out.1, HF.out.2.1, ?_, ?_⟩
        · have h1 : wr.ownsRow w.heap.size 38 5 (.slice (some ⟨gr, 0, none⟩) R.length cr) R.length (R.flatMap flM.c) := by
            obtain ⟨h1, h2 | ⟨g', cap', cur, h3, h4, h5⟩⟩ := HF.out.2.2.1
            · exact ⟨h1, .inl h2⟩
            · exact ⟨h1, .inr ⟨g', cap', cur, h3, by omega, h5⟩⟩
          have ob : ∀ (V : World) (o : Nat) (u : Value), V.ownsRow w.heap.size 38 5 (.slice (some ⟨gr, 0, none⟩) R.length cr) R.length (R.flatMap flM.c) → (V.setCell ⟨w.heap.size, o, none⟩ u).ownsRow w.heap.size 38 5 (.slice (some ⟨gr, 0, none⟩) R.length cr) R.length (R.flatMap flM.c) := fun V o u h => own_block h (fun k hk => Below.heap_setCell _ _ _ k (by have := blk_eq hk; show k ≠ w.heap.size; omega))
          have hd : V.ownsRow w.heap.size 38 5 (.slice (some ⟨gr, 0, none⟩) R.length cr) R.length (R.flatMap flM.c) := own_block h1 (fun k hk => HVB.out.block k (h1.lt k hk).2)
          exact ob _ _ _ (ob _ _ _ (ob _ _ _ (ob _ _ _ hd)))
        · exact Kq.off (Kq.off (Kq.off (Kq.off (Kq.on HF.out.2.2.2 HVB.out) _ _ (Nat.le_refl _)) _ _ (Nat.le_refl _)) _ _ (Nat.le_refl _)) _ _ (Nat.le_refl _)
    | cons r M0 =>
      rw [hM] at hs hbx hln
      have h0 : (r :: M0)[0]? = some r := rfl
      have hfi := first_run W0 Q hb g cap (r :: M0) r wr hs.sg h0 (by omega) hs.hp
      obtain ⟨ML, hML⟩ : ∃ ML, (r :: M0).length = ML := ⟨_, rfl⟩
      rw [hML] at hbx hln
      have hpos : 0 < ML := by rw [← hML]; simp
      have hpi : (0 : Int) < (ML : Int) := by omega
      have HST : Hid (St W0 Q hb g cap L w (w.heap.size + 1) (.slice (some ⟨gr, 0, none⟩) R.length cr) R (r :: M0) wr ∧ wr.heap[w.heap.size]? = some (.cells #[.string ⟨#[]⟩, .int .i64 0, .slice none 0 0, .slice none 0 0] 30 (0, 0))) := ⟨hs, hz⟩
      have hgr : w.heap.size + 1 ≤ gr ∧ gr < wr.heap.size := hs.ow.lt gr rfl
      clear hs hz hst hM hML
      go_wp2_with (first | (go_at_call 65; refine (len_run _ _ _ _).mono ?_; rintro e w0 ⟨rfl, hw0⟩; rw [← hw0]; clear hw0 w0) | (go_at_call 41; fail))
      refine hfi.mono ?_
      rintro e w1 ⟨rfl, M', hp1, hp2, hp3, hp4⟩
      obtain ⟨q1, q2, q3⟩ := St.step HST.out.1 h0 hp1
      have ow1 := own_block HST.out.1.ow (fun k hk => hp4.block k (by have := blk_eq hk; omega) (by have := blk_eq hk; omega) (by have := blk_eq hk; omega))
      have hz1 := (hp4.block w.heap.size (Array.getElem?_eq_some_iff.1 HST.out.2).1 (by omega) (by omega)).trans HST.out.2
      have hw1s : w.heap.size + 1 ≤ w1.heap.size := (Array.getElem?_eq_some_iff.1 hz1).1
      have hal : Below w1.heap.size w1 (w1.alloc (.cells #[.int .i64 r.q, .string r.x, .string r.k, .string r.b, .bool r.a] 38)) := (Below.refl _ _).alloc (Nat.le_refl _) _
      have hall : qa.All (w1.alloc (.cells #[.int .i64 r.q, .string r.x, .string r.k, .string r.b, .bool r.a] 38)) (w.heap.size + 1) (.slice (some ⟨gr, 0, none⟩) R.length cr) R := .inr ⟨gr, cr, rfl, own_block ow1 (fun k hk => hal.block k (by have := blk_eq hk; have := hp4.size; omega))⟩
      obtain ⟨v', w', hrun, hall', hbw'⟩ := qa.app_one r hall (by simp; omega) (by omega) (bnew w1 _ _) 27
      have HRUN : Hid ((Builtin.append_ #[27, 27] 27 #[.slice (some ⟨gr, 0, none⟩) R.length cr, .slice (some ⟨w1.heap.size, 0, none⟩) 1 1]).run Try.prog (w1.alloc (.cells #[.int .i64 r.q, .string r.x, .string r.k, .string r.b, .bool r.a] 38)) = .ok v' w') := hrun
      have hB : Below (w.heap.size + 1) w1 w' := (hal.mono hw1s).trans hbw'
      obtain ⟨g2, c2, hv2, ho2⟩ : ∃ g2 c2, v' = .slice (some ⟨g2, 0, none⟩) (R ++ [r]).length c2 ∧ w'.ownsRow (w.heap.size + 1) 38 5 (.slice (some ⟨g2, 0, none⟩) (R ++ [r]).length c2) (R ++ [r]).length ((R ++ [r]).flatMap flM.c) := by
        rcases hall' with ⟨h9, _⟩ | h9
        · simp at h9
        · exact h9
      subst hv2
      have HN : Hid (St W0 Q hb g cap L w (w.heap.size + 1) (.slice (some ⟨g2, 0, none⟩) (R ++ [r]).length c2) (R ++ [r]) M' w' ∧ w'.heap[w.heap.size]? = some (.cells #[.string ⟨#[]⟩, .int .i64 0, .slice none 0 0, .slice none 0 0] 30 (0, 0))) :=
        ⟨⟨sg_below hp3 hB (by omega) (by omega) (by omega), kq_below (HST.out.1.kq.trans hp4) hB (by omega), hp2, q1, q2, q3, ho2⟩, (hB.block w.heap.size (by omega)).trans hz1⟩
      have hR1 : (R ++ [r]).length = R.length + 1 := by simp
      clear hfi hp1 hp2 hp3 hp4 q1 q2 q3 ow1 hz1 hal hall hrun hall' hbw' hB ho2 HST hbx
      go_wp2_with (at_builtin; refine cpr.wpList_append_run rfl _ _ 27 27 rfl _ _ _ rfl rfl HRUN.out ?_)
      go_wp2
      go_roundw
      case rel => exact ⟨R ++ [r], M', g2, c2, by rw [hR1], HN⟩
      case measure => simp [lenOf]; omega
end Go.Proofs.Ytfgilmibeeljnaa.qcl
