/- What is said on a channel: the frames of replies, one behind the other. -/
import Derived.Test.YtnmooolnmhidbaaDoorReplyRows
import Derived.Test.YtnmooolnmhidbaaDoorSayWalks
import Derived.Test.YtnmooolnmhidbaaDoorCutWalks
import Derived.Test.YtnmooolnmhidbaaDoorHeaderWalks
namespace Go.Proofs.YtnmooolnmhidbaaDoor.spk
open Go.ChangeShapes Go.WideShapes Go.ChangeAt Go.RowKit Go.Proofs.YtnmooolnmhidbaaDoor.rp
set_option linter.unusedVariables false

def cat : List ByteArray → ByteArray
  | [] => ⟨#[]⟩
  | x :: r => x ++ cat r
theorem app_nil (x : ByteArray) : x ++ (⟨#[]⟩ : ByteArray) = x := by apply ByteArray.ext; simp
theorem nil_app (x : ByteArray) : (⟨#[]⟩ : ByteArray) ++ x = x := by apply ByteArray.ext; simp
theorem app_assoc (x y z : ByteArray) : x ++ y ++ z = x ++ (y ++ z) := by apply ByteArray.ext; simp
theorem cat_snoc (x : ByteArray) : ∀ l, cat (l ++ [x]) = cat l ++ x
  | [] => by simp only [List.nil_append, cat]; rw [app_nil, nil_app]
  | y :: r => by simp only [List.cons_append, cat]; rw [cat_snoc x r, app_assoc]
theorem cat_take {l : List ByteArray} {k : Nat} {x : ByteArray} (h : l[k]? = some x) : cat (l.take (k + 1)) = cat (l.take k) ++ x := by
  rw [List.take_add_one, h]
  exact cat_snoc x _
theorem cat_size {m : Nat} : ∀ {l : List ByteArray}, (∀ x ∈ l, x.size ≤ m) → (cat l).size ≤ l.length * m
  | [], _ => Nat.zero_le _
  | y :: r, h => by
    have h1 := h y (List.mem_cons_self ..)
    have h2 := cat_size (l := r) (fun x hx => h x (List.mem_cons_of_mem _ hx))
    simp only [cat, ByteArray.size_append, List.length_cons]
    rw [Nat.add_mul]
    omega
/-- the frames of a body's pieces -/
def pieces (no : Int) (b : ByteArray) : List ByteArray := (ct.cuts b 1000).map (pf.bytes 3 no)
def body (no : Int) (b : ByteArray) : ByteArray := pf.bytes 2 no (hdw.hdr b.size) ++ cat (pieces no b)
def first (no : Int) (r : Rp) : ByteArray := sy.said no (wm.outB r.c r.i r.ts r.ns)
def rep (no : Int) (r : Rp) : ByteArray := if r.hb then first no r ++ body no r.b else first no r
def spoken (no : Int) (l : List Rp) : ByteArray := cat (l.map (rep no))
theorem first_size (no : Int) (r : Rp) : (first no r).size ≤ 4040 := by
  unfold first sy.said
  split
  · show 0 ≤ 4040; omega
  · exact pf.bytes_size _ _ _
theorem pieces_length (no : Int) (b : ByteArray) : (pieces no b).length ≤ b.size := by
  unfold pieces
  rw [List.length_map]
  exact ct.cuts_length _ _
theorem pieces_take (no : Int) (b : ByteArray) (hb : b.size ≤ 1048576) (k : Nat) : (cat ((pieces no b).take k)).size ≤ 4236247040 := by
  have h1 := pieces_length no b
  have h2 : (cat ((pieces no b).take k)).size ≤ ((pieces no b).take k).length * 4040 := cat_size (fun x hx => by
    obtain ⟨y, _, rfl⟩ := List.mem_map.1 (List.mem_of_mem_take hx)
    exact pf.bytes_size _ _ _)
  have h3 : ((pieces no b).take k).length ≤ 1048576 := by rw [List.length_take]; omega
  have := Nat.mul_le_mul_right 4040 h3
  omega
theorem pieces_size (no : Int) (b : ByteArray) (hb : b.size ≤ 1048576) : (cat (pieces no b)).size ≤ 4236247040 := by
  have := pieces_take no b hb (pieces no b).length
  rwa [List.take_length] at this
theorem rep_size (no : Int) (r : Rp) (hb : r.b.size ≤ 1048576) : (rep no r).size ≤ 4236255120 := by
  have h1 := first_size no r
  have h2 := pieces_size no r.b hb
  have h3 := pf.bytes_size 2 no (hdw.hdr r.b.size)
  unfold rep body
  split
  · rw [ByteArray.size_append, ByteArray.size_append]; omega
  · omega
theorem take_size (no : Int) (l : List Rp) (hl : l.length ≤ 1048576) (hb : ∀ r ∈ l, r.b.size ≤ 1048576) (k : Nat) : (cat ((l.map (rep no)).take k)).size ≤ 4442035448709120 := by
  have h2 : (cat ((l.map (rep no)).take k)).size ≤ ((l.map (rep no)).take k).length * 4236255120 := cat_size (fun x hx => by
    obtain ⟨y, hy, rfl⟩ := List.mem_map.1 (List.mem_of_mem_take hx)
    exact rep_size no y (hb y hy))
  have h3 : ((l.map (rep no)).take k).length ≤ 1048576 := by rw [List.length_take, List.length_map]; omega
  have := Nat.mul_le_mul_right 4236255120 h3
  omega
/-- a reply whose numbers fit and whose lists and texts are not too long -/
structure Fit (r : Rp) : Prop where
  wc : (Lit.int .i64 r.c).wf = true
  wi : (Lit.int .i64 r.i).wf = true
  tl : r.ts.length ≤ 1048576
  tx : ∀ x ∈ r.ts, x.size ≤ 1048576
  nl : r.ns.length ≤ 1048576
  nw : ∀ x ∈ r.ns, (Lit.int .i64 x).wf = true
  bs : r.b.size ≤ 1048576
  ct : r.ts.length ≤ r.tc
  cn : r.ns.length ≤ r.nc
theorem fit_m {w : World} {r : Rp} (f : Fit r) (h : ls.Sl Value.string w w.heap.size r.ta r.ts ∧ ls.Sl (Value.int .i64) w w.heap.size r.na r.ns) : mi.M w r.c r.i r.ts r.ns r.ta r.na r.tc r.nc := ⟨f.wc, f.wi, f.tl, f.tx, f.nl, f.nw, h.1, h.2, f.ct, f.cn⟩
end Go.Proofs.YtnmooolnmhidbaaDoor.spk
