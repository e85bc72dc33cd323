/- CqPure, StreamNil. -/
import Derived.Test.YtaoefccgdfcchaaGreatKq25
import Derived.Test.YtaoefccgdfcchaaGreatKq17
import Derived.Test.YtaoefccgdfcchaaGreatKq18
import Derived.Test.YtaoefccgdfcchaaGreatKq20
import Derived.Test.YtaoefccgdfcchaaGreatKq24
set_option maxRecDepth 100000
set_option maxHeartbeats 8000000
set_option linter.unusedVariables false
namespace Go.Proofs.YtaoefccgdfcchaaGreat.cqp
open ChangeShapes WideShapes ChangeAt RowKit rc rr ra rt ro fl co cb
theorem ins_at {α:Type} (l:List α) (p:Nat) (x:α) (hp:p <= l.length) (k:Nat):(l.take p++x :: l.drop p)[k]?=if k < p then l[k]? else if k=p then some x else l[k - 1]?:=by
 have hl:(l.take p).length=p:=by rw [List.length_take]; omega
 by_cases h1:k < p
 ·rw [List.getElem?_append_left (by omega),List.getElem?_take_of_lt h1,if_pos h1]
 ·rw [List.getElem?_append_right (by omega),hl,if_neg h1]
  by_cases h2:k=p
  ·subst h2; simp
  ·rw [if_neg h2]
   obtain ⟨m,rfl⟩:∃ m,k=p+m+1:=⟨k - p - 1,by omega⟩
   rw [show p+m+1 - p=m+1 by omega,List.getElem?_cons_succ,List.getElem?_drop,show p+m+1 - 1=p+m by omega]
theorem ins_len {α:Type} (l:List α) (p:Nat) (x:α) (hp:p <= l.length):(l.take p++x :: l.drop p).length=l.length+1:=by simp; omega
theorem ins_mem {α:Type} {l:List α} {p:Nat} {x e:α} (h:e ∈ l.take p++x :: l.drop p):e=x ∨ e ∈ l:=by
 rcases List.mem_append.1 h with h | h
 ·exact .inr (List.mem_of_mem_take h)
 ·rcases List.mem_cons.1 h with h | h
  ·exact .inl h
  ·exact .inr (List.mem_of_mem_drop h)
theorem ins_pw {α:Type} {R:α->α->Prop} {l:List α} {p:Nat} {x:α} (h:l.Pairwise R) (h1:∀ e ∈ l,R e x) (h2:∀ e ∈ l,R x e):(l.take p++x :: l.drop p).Pairwise R:=by
 have e:=List.take_append_drop p l
 rw [<- e,List.pairwise_append] at h
 refine List.pairwise_append.2 ⟨h.1,List.pairwise_cons.2 ⟨fun a ha=>h2 a (List.mem_of_mem_drop ha),h.2.1⟩,fun a ha b hb=>?_⟩
 rcases List.mem_cons.1 hb with rfl | hb
 ·exact h1 a (List.mem_of_mem_take ha)
 ·exact h.2.2 a ha b hb
def pos {α:Type} (key:α->ByteArray) (l:List α) (n:ByteArray):Nat:=l.findIdx (fun e=>decide (0 <= cmpT (key e) n))
theorem pos_le {α:Type} (key:α->ByteArray) (l:List α) (n:ByteArray):pos key l n <= l.length:=List.findIdx_le_length
theorem pos_of {α:Type} {key:α->ByteArray} {n:ByteArray}:∀ {l:List α} {p:Nat},p <= l.length->(∀ (i:Nat) a,i < p->l[i]?=some a->cmpT (key a) n < 0)->(∀ a,l[p]?=some a->0 <= cmpT (key a) n)->pos key l n=p
 | [],p,h,_,_=>by simp at h; subst h; rfl
 | x :: l,0,_,_,h2=>by
  have:=h2 x rfl
  unfold pos
  rw [List.findIdx_cons]
  simp [this]
 | x :: l,p+1,h,h1,h2=>by
  have h3:=h1 0 x (by omega) rfl
  have h4:¬ 0 <= cmpT (key x) n:=by omega
  have ih:=pos_of (l:=l) (p:=p) (key:=key) (n:=n) (by simpa using h) (fun i a hi ha=>h1 (i+1) a (by omega) (by simpa using ha)) (fun a ha=>h2 a (by simpa using ha))
  unfold pos at ih ⊢
  rw [List.findIdx_cons,ih]
  simp [h4]
theorem pos_at {α:Type} (key:α->ByteArray) (n:ByteArray):∀ (l:List α),(∀ (i:Nat) a,i < pos key l n->l[i]?=some a->cmpT (key a) n < 0)/\∀ a,l[pos key l n]?=some a->0 <= cmpT (key a) n
 | []=>⟨fun i a h=>by simp [pos] at h,fun a h=>by simp at h⟩
 | x :: l=>by
  obtain ⟨h1,h2⟩:=pos_at key n l
  unfold pos at h1 h2 ⊢
  rw [List.findIdx_cons]
  by_cases h:0 <= cmpT (key x) n
  ·simp only [h,decide_true,cond_true]
   exact ⟨fun i a hi=>by omega,fun a ha=>by cases ha; exact h⟩
  ·simp only [h,decide_false,cond_false]
   refine ⟨fun i a hi ha=>?_,fun a ha=>h2 a (by simpa using ha)⟩
   cases i with
   | zero=>cases ha; omega
   | succ i=>exact h1 i a (by omega) (by simpa using ha)
def newQ (n:ByteArray):qu.E:=⟨n,1,none,0,[],none,0,[]⟩
def newT (n:ByteArray):su.E:=⟨n,0,0,none,0,[],none,0,[]⟩
def posQ (l:List qu.E) (n:ByteArray):Nat:=pos qu.E.nm l n
def posT (l:List su.E) (n:ByteArray):Nat:=pos su.E.nm l n
def insQ (l:List qu.E) (n:ByteArray):List qu.E:=l.take (posQ l n)++newQ n :: l.drop (posQ l n)
def insT (l:List su.E) (n:ByteArray):List su.E:=l.take (posT l n)++newT n :: l.drop (posT l n)
theorem insQ_len (l:List qu.E) (n:ByteArray):(insQ l n).length=l.length+1:=ins_len l _ _ (pos_le _ _ _)
theorem insT_len (l:List su.E) (n:ByteArray):(insT l n).length=l.length+1:=ins_len l _ _ (pos_le _ _ _)
section
variable {es:List Ex} {bs:List Bi} {qs ks:List qu.E} {ts us:List su.E} {n:ByteArray}
theorem posQ_same (h:Same qs ks ts us):posQ ks n=posQ qs n:=by
 obtain ⟨h1,h2⟩:=pos_at qu.E.nm n qs
 refine pos_of (by rw [h.ql]; exact pos_le _ _ _) (fun i a hi ha=>?_) (fun a ha=>?_)
 ·obtain ⟨x,hx,e,_⟩:=h.flip.q_at ha
  rw [<- e]
  exact h1 i x hi hx
 ·obtain ⟨x,hx,e,_⟩:=h.flip.q_at ha
  rw [<- e]
  exact h2 x hx
theorem posT_same (h:Same qs ks ts us):posT us n=posT ts n:=by
 obtain ⟨h1,h2⟩:=pos_at su.E.nm n ts
 refine pos_of (by rw [h.tl]; exact pos_le _ _ _) (fun i a hi ha=>?_) (fun a ha=>?_)
 ·obtain ⟨x,hx,e,_⟩:=h.flip.t_at ha
  rw [<- e]
  exact h1 i x hi hx
 ·obtain ⟨x,hx,e,_⟩:=h.flip.t_at ha
  rw [<- e]
  exact h2 x hx
theorem same_insQ (h:Same qs ks ts us):Same (insQ qs n) (insQ ks n) ts us:=by
 refine ⟨by rw [insQ_len,insQ_len,h.ql],h.tl,fun k r s hr hs=>?_,h.t⟩
 unfold insQ at hr hs
 rw [posQ_same h,ins_at _ _ _ (by rw [h.ql]; exact pos_le _ _ _)] at hr
 rw [ins_at _ _ _ (show posQ qs n <= qs.length from pos_le _ _ _)] at hs
 split at hr
 ·rename_i h1
  rw [if_pos h1] at hs
  exact h.q k r s hr hs
 ·rename_i h1
  rw [if_neg h1] at hs
  split at hr
  ·rename_i h2
   rw [if_pos h2] at hs
   cases hr; cases hs
   exact ⟨rfl,rfl,rfl,rfl⟩
  ·rename_i h2
   rw [if_neg h2] at hs
   exact h.q _ r s hr hs
theorem same_insT (h:Same qs ks ts us):Same qs ks (insT ts n) (insT us n):=by
 refine ⟨h.ql,by rw [insT_len,insT_len,h.tl],h.q,fun k r s hr hs=>?_⟩
 unfold insT at hr hs
 rw [posT_same h,ins_at _ _ _ (by rw [h.tl]; exact pos_le _ _ _)] at hr
 rw [ins_at _ _ _ (show posT ts n <= ts.length from pos_le _ _ _)] at hs
 split at hr
 ·rename_i h1
  rw [if_pos h1] at hs
  exact h.t k r s hr hs
 ·rename_i h1
  rw [if_neg h1] at hs
  split at hr
  ·rename_i h2
   rw [if_pos h2] at hs
   cases hr; cases hs
   exact ⟨rfl,rfl,rfl,rfl,rfl⟩
  ·rename_i h2
   rw [if_neg h2] at hs
   exact h.t _ r s hr hs
theorem placeQ_same (h:Same qs ks ts us):0 <= qu.place ks n ↔ 0 <= qu.place qs n:=by
 refine ⟨fun hp=>?_,fun hp=>?_⟩
 ·obtain ⟨t,a,ha,hn⟩:=qu.place_there.1 hp
  obtain ⟨x,hx,e,_⟩:=h.flip.q_at ha
  exact qu.place_there.2 ⟨t,x,hx,e.trans hn⟩
 ·obtain ⟨t,a,ha,hn⟩:=qu.place_there.1 hp
  obtain ⟨x,hx,e,_⟩:=h.q_at ha
  exact qu.place_there.2 ⟨t,x,hx,e.trans hn⟩
theorem placeT_same (h:Same qs ks ts us):0 <= su.place us n ↔ 0 <= su.place ts n:=by
 refine ⟨fun hp=>?_,fun hp=>?_⟩
 ·obtain ⟨t,a,ha,hn⟩:=su.place_there.1 hp
  obtain ⟨x,hx,e,_⟩:=h.flip.t_at ha
  exact su.place_there.2 ⟨t,x,hx,e.trans hn⟩
 ·obtain ⟨t,a,ha,hn⟩:=su.place_there.1 hp
  obtain ⟨x,hx,e,_⟩:=h.t_at ha
  exact su.place_there.2 ⟨t,x,hx,e.trans hn⟩
inductive Ans (es:List Ex) (bs:List Bi) (qs:List qu.E) (ts:List su.E) (n:ByteArray) (st:Bool):List qu.E->List su.E->Bool->Prop where
 | bad:okC es bs qs ts=false->Ans es bs qs ts n st qs ts false
 | there:okC es bs qs ts=true->(0 <= qu.place qs n ∨ 0 <= su.place ts n)->Ans es bs qs ts n st qs ts (decide (0 <= su.place ts n) == st)
 | noT:okC es bs qs ts=true->¬ 0 <= qu.place qs n->¬ 0 <= su.place ts n->st=true->okC es bs qs (insT ts n)=false->Ans es bs qs ts n st qs ts false
 | yesT:okC es bs qs ts=true->¬ 0 <= qu.place qs n->¬ 0 <= su.place ts n->st=true->okC es bs qs (insT ts n)=true->Ans es bs qs ts n st qs (insT ts n) true
 | noQ:okC es bs qs ts=true->¬ 0 <= qu.place qs n->¬ 0 <= su.place ts n->st=false->okC es bs (insQ qs n) ts=false->Ans es bs qs ts n st qs ts false
 | yesQ:okC es bs qs ts=true->¬ 0 <= qu.place qs n->¬ 0 <= su.place ts n->st=false->okC es bs (insQ qs n) ts=true->Ans es bs qs ts n st (insQ qs n) ts true
end
theorem ans_ex (es:List Ex) (bs:List Bi) (qs:List qu.E) (ts:List su.E) (n:ByteArray) (st:Bool):∃ x:List qu.E × List su.E × Bool,Ans es bs qs ts n st x.1 x.2.1 x.2.2:=by
 cases h:okC es bs qs ts with
 | false=>exact ⟨(qs,ts,false),.bad h⟩
 | true =>
  by_cases h1:0 <= qu.place qs n ∨ 0 <= su.place ts n
  ·exact ⟨(qs,ts,_),.there h h1⟩
  ·have h2:¬ 0 <= qu.place qs n:=fun x=>h1 (.inl x)
   have h3:¬ 0 <= su.place ts n:=fun x=>h1 (.inr x)
   cases st with
   | true =>
    cases h4:okC es bs qs (insT ts n) with
    | true=>exact ⟨(qs,insT ts n,true),.yesT h h2 h3 rfl h4⟩
    | false=>exact ⟨(qs,ts,false),.noT h h2 h3 rfl h4⟩
   | false =>
    cases h4:okC es bs (insQ qs n) ts with
    | true=>exact ⟨(insQ qs n,ts,true),.yesQ h h2 h3 rfl h4⟩
    | false=>exact ⟨(qs,ts,false),.noQ h h2 h3 rfl h4⟩
noncomputable def res (es:List Ex) (bs:List Bi) (qs:List qu.E) (ts:List su.E) (n:ByteArray) (st:Bool):List qu.E × List su.E × Bool:=(ans_ex es bs qs ts n st).choose
theorem res_ans (es:List Ex) (bs:List Bi) (qs:List qu.E) (ts:List su.E) (n:ByteArray) (st:Bool):Ans es bs qs ts n st (res es bs qs ts n st).1 (res es bs qs ts n st).2.1 (res es bs qs ts n st).2.2:=(ans_ex es bs qs ts n st).choose_spec
theorem ans_same {es:List Ex} {bs:List Bi} {qs ks Q:List qu.E} {ts us U:List su.E} {n:ByteArray} {st G:Bool} (h:Same qs ks ts us) (a:Ans es bs qs ts n st Q U G):∃ K V,Ans es bs ks us n st K V G/\Same Q K U V:=by
 have e1:okC es bs ks us=okC es bs qs ts:=ok_same h
 have e2:okC es bs ks (insT us n)=okC es bs qs (insT ts n):=ok_same (same_insT h)
 have e3:okC es bs (insQ ks n) us=okC es bs (insQ qs n) ts:=ok_same (same_insQ h)
 have p1:0 <= qu.place ks n ↔ 0 <= qu.place qs n:=placeQ_same h
 have p2:0 <= su.place us n ↔ 0 <= su.place ts n:=placeT_same h
 have p3:decide (0 <= su.place us n)=decide (0 <= su.place ts n):=decide_eq_decide.2 p2
 cases a with
 | bad h1=>exact ⟨ks,us,.bad (e1.trans h1),h⟩
 | there h1 h2=>exact ⟨ks,us,by rw [<- p3]; exact .there (e1.trans h1) (h2.imp p1.2 p2.2),h⟩
 | noT h1 h2 h3 h4 h5=>exact ⟨ks,us,.noT (e1.trans h1) (fun x=>h2 (p1.1 x)) (fun x=>h3 (p2.1 x)) h4 (e2.trans h5),h⟩
 | yesT h1 h2 h3 h4 h5=>exact ⟨ks,insT us n,.yesT (e1.trans h1) (fun x=>h2 (p1.1 x)) (fun x=>h3 (p2.1 x)) h4 (e2.trans h5),same_insT h⟩
 | noQ h1 h2 h3 h4 h5=>exact ⟨ks,us,.noQ (e1.trans h1) (fun x=>h2 (p1.1 x)) (fun x=>h3 (p2.1 x)) h4 (e3.trans h5),h⟩
 | yesQ h1 h2 h3 h4 h5=>exact ⟨insQ ks n,us,.yesQ (e1.trans h1) (fun x=>h2 (p1.1 x)) (fun x=>h3 (p2.1 x)) h4 (e3.trans h5),same_insQ h⟩
theorem ans_cases {es:List Ex} {bs:List Bi} {qs Q:List qu.E} {ts U:List su.E} {n:ByteArray} {st G:Bool} (a:Ans es bs qs ts n st Q U G) :
  (okC es bs qs ts=false/\Q=qs/\U=ts/\G=false) ∨ (okC es bs qs ts=true/\0 <= qu.place qs n/\¬ 0 <= su.place ts n/\Q=qs/\U=ts/\G=!st) ∨ (okC es bs qs ts=true/\¬ 0 <= qu.place qs n/\0 <= su.place ts n/\Q=qs/\U=ts/\G=st) ∨
  (okC es bs qs ts=true/\¬ 0 <= qu.place qs n/\¬ 0 <= su.place ts n/\st=true/\Q=qs/\((okC es bs qs (insT ts n)=false/\U=ts/\G=false) ∨ (okC es bs qs (insT ts n)=true/\U=insT ts n/\G=true))) ∨
  (okC es bs qs ts=true/\¬ 0 <= qu.place qs n/\¬ 0 <= su.place ts n/\st=false/\U=ts/\((okC es bs (insQ qs n) ts=false/\Q=qs/\G=false) ∨ (okC es bs (insQ qs n) ts=true/\Q=insQ qs n/\G=true))):=by
 cases a with
 | bad h=>exact .inl ⟨h,rfl,rfl,rfl⟩
 | there h h1 =>
  by_cases hq:0 <= qu.place qs n
  ·have ht:¬ 0 <= su.place ts n:=fun ht=>by
    obtain ⟨i,e,he,hn⟩:=qu.place_there.1 hq
    have:=((okC_true.1 h).q.1 i e (List.getElem?_eq_some_iff.1 he).1 he).2
    rw [hn] at this
    exact this ht
   exact .inr (.inl ⟨h,hq,ht,rfl,rfl,by rw [decide_eq_false ht]; cases st <;> rfl⟩)
  ·have ht:0 <= su.place ts n:=h1.resolve_left hq
   exact .inr (.inr (.inl ⟨h,hq,ht,rfl,rfl,by rw [decide_eq_true ht]; cases st <;> rfl⟩))
 | noT h1 h2 h3 h4 h5=>exact .inr (.inr (.inr (.inl ⟨h1,h2,h3,h4,rfl,.inl ⟨h5,rfl,rfl⟩⟩)))
 | yesT h1 h2 h3 h4 h5=>exact .inr (.inr (.inr (.inl ⟨h1,h2,h3,h4,rfl,.inr ⟨h5,rfl,rfl⟩⟩)))
 | noQ h1 h2 h3 h4 h5=>exact .inr (.inr (.inr (.inr ⟨h1,h2,h3,h4,rfl,.inl ⟨h5,rfl,rfl⟩⟩)))
 | yesQ h1 h2 h3 h4 h5=>exact .inr (.inr (.inr (.inr ⟨h1,h2,h3,h4,rfl,.inr ⟨h5,rfl,rfl⟩⟩)))
theorem ans_sm {es:List Ex} {bs:List Bi} {qs Q:List qu.E} {ts U:List su.E} {n:ByteArray} {st G:Bool} (S:Sm es bs qs ts) (hl:okC es bs qs ts=true->qs.length <= 20/\ts.length <= 20) (hq:qu.tot qs <= 49999999990) (ht:su.tot ts <= 49999999990) (a:Ans es bs qs ts n st Q U G):Sm es bs Q U:=by
 have tq:qu.tot (insQ qs n)=qu.tot qs+2:=by
  unfold insQ
  have e:=List.take_append_drop (posQ qs n) qs
  have tt:∀ a b:List qu.E,qu.tot (a++b)=qu.tot a+qu.tot b:=fun a b=>by
   induction a with
   | nil=>simp [qu.tot]
   | cons x a ih=>simp only [List.cons_append,qu.tot,ih]; omega
  have e2:qu.tot qs=qu.tot (qs.take (posQ qs n))+qu.tot (qs.drop (posQ qs n)):=by rw [<- tt,e]
  rw [tt,e2]
  simp only [qu.tot,qu.wtm,newQ,List.length_nil]
  omega
 have tu:su.tot (insT ts n)=su.tot ts+3:=by
  unfold insT
  have e:=List.take_append_drop (posT ts n) ts
  have tt:∀ a b:List su.E,su.tot (a++b)=su.tot a+su.tot b:=fun a b=>by
   induction a with
   | nil=>simp [su.tot]
   | cons x a ih=>simp only [List.cons_append,su.tot,ih]; omega
  have e2:su.tot ts=su.tot (ts.take (posT ts n))+su.tot (ts.drop (posT ts n)):=by rw [<- tt,e]
  rw [tt,e2]
  simp only [su.tot,su.wtm,newT,List.length_nil]
  omega
 cases a with
 | bad _=>exact S
 | there _ _=>exact S
 | noT _ _ _ _ _=>exact S
 | noQ _ _ _ _ _=>exact S
 | yesT h1 h2 h3 h4 h5 =>
  have h20:=hl h1
  refine ⟨S.el,S.bl,S.ql,by rw [insT_len]; omega,S.qe,fun r hr=>?_,S.qt,by omega⟩
  rcases ins_mem hr with rfl | hr
  ·exact ⟨by simp [newT],by simp [newT]⟩
  ·exact S.te r hr
 | yesQ h1 h2 h3 h4 h5 =>
  have h20:=hl h1
  refine ⟨S.el,S.bl,by rw [insQ_len]; omega,S.tl,fun r hr=>?_,S.te,by omega,S.tt⟩
  rcases ins_mem hr with rfl | hr
  ·exact ⟨by simp [newQ],by simp [newQ]⟩
  ·exact S.qe r hr
end Go.Proofs.YtaoefccgdfcchaaGreat.cqp
namespace Go.Proofs.YtaoefccgdfcchaaGreat.sno
open ChangeShapes WideShapes ChangeAt RowKit fl rc rr rf st
theorem ok_nil (sn:ByteArray):okB sn 0 0 [] []=nm.good sn:=by
 cases h:nm.good sn with
 | true=>exact okB_true.2 ⟨h,⟨by omega,by omega⟩,⟨by omega,by omega⟩,rfl,by simp,by simp,fun i e he=>by simp at he,fun i a b ha=>by simp at ha,fun i m hm=>by simp at hm,fun i a b hi=>by simp at hi⟩
 | false=>exact okB_no fun hh=>by have:=hh.nmk; rw [h] at this; cases this
theorem asc_nil (w:World):Calls Tryz.prog 149 #[.slice none 0 0,.func (.func 150) #[] #[]] w fun r w'=>r=.returned (.bool true)/\Below w.heap.size w w':=by
 go_enter Tryz.func149,Tryz.ntmps149
 go_wp2
 go_loopw [5] (fun v wr=>v=.int .i64 1/\Below w.heap.size w wr) (fun _ _=>0)
 case atStart=>exact ⟨rfl,Below.refl _ _⟩
 case round =>
  obtain ⟨rfl,hbel⟩:=hrel
  go_wp2
  go_ret
  exact ⟨rfl,hbel⟩
theorem entries_nil (w:World):Calls Tryz.prog 124 #[.slice none 0 0,.int .i64 0] w fun r w'=>r=.returned (.bool true)/\Below w.heap.size w w':=by
 go_enter Tryz.func124,Tryz.ntmps124
 go_wp2
 go_loopw [10,5,6,7] (fun v x _ _ wr=>v=.int .i64 0/\Below w.heap.size w wr) (fun _ _ _ _ _=>0)
 case atStart=>exact ⟨rfl,Below.refl _ _⟩
 case round =>
  obtain ⟨rfl,hbel⟩:=hrel
  go_wp2
  go_ret
  exact ⟨rfl,hbel⟩
theorem marks_nil (w:World):Calls Tryz.prog 125 #[.slice none 0 0,.int .i64 0] w fun r w'=>r=.returned (.bool true)/\Below w.heap.size w w':=by
 go_enter Tryz.func125,Tryz.ntmps125
 go_wp2
 go_loopw [9,6] (fun v _ wr=>v=.int .i64 0/\Below w.heap.size w wr) (fun _ _ _=>0)
 case atStart=>exact ⟨rfl,Below.refl _ _⟩
 case round =>
  obtain ⟨rfl,hbel⟩:=hrel
  have hbs:=hbel.size
  have ha:=asc_nil wr
  go_wp2_with (go_at_call 149; refine ha.mono ?_; rintro e w1 ⟨rfl,hb1⟩)
  go_ret
  exact ⟨rfl,hbel.trans (hb1.mono hbs)⟩
theorem impl_nil (sn:ByteArray) (w:World) (hs:sn.size <= 1048576):Calls Tryz.prog 60 #[.agg #[.string sn,.int .i64 0,.int .i64 0,.slice none 0 0,.slice none 0 0]] w fun e w'=>e=.returned (.bool (okB sn 0 0 [] []))/\Below w.heap.size w w':=by
 rw [ok_nil]
 have hb:=fl.bl w (.cells #[.string sn,.int .i64 0,.int .i64 0,.slice none 0 0,.slice none 0 0] 54)
 have hA:=bnew w #[.string sn,.int .i64 0,.int .i64 0,.slice none 0 0,.slice none 0 0] 54
 obtain ⟨W,hW⟩:∃ W,w.alloc (.cells #[.string sn,.int .i64 0,.int .i64 0,.slice none 0 0,.slice none 0 0] 54)=W:=⟨_,rfl⟩
 rw [hW] at hb hA
 have hlt:=(Array.getElem?_eq_some_iff.1 hA).1
 have HA:Hid (W.heap[w.heap.size]?=some (.cells #[.string sn,.int .i64 0,.int .i64 0,.slice none 0 0,.slice none 0 0] 54 (0,0))):=hA
 obtain ⟨c0,c1,c2,c3,c4⟩:=fl.q5 hA
 have kn:=fun W=>nm.impl_name sn W hs
 clear hA
 cases q1:nm.good sn with
 | false =>
  simp only [q1] at kn
  go_enter Tryz.func60,Tryz.ntmps60
  go_wp2_with (go_at_call 114; refine (kn _).mono ?_; rintro e w0 ⟨rfl,hw0⟩; rw [<- hw0]; clear hw0 w0)
  go_ret
  exact ⟨rfl,hb⟩
 | true =>
  simp only [q1] at kn
  have ke:=entries_nil W
  go_enter Tryz.func60,Tryz.ntmps60
  go_wp2_with (first | (go_at_call 114; refine (kn _).mono ?_; rintro e w0 ⟨rfl,hw0⟩; rw [<- hw0]; clear hw0 w0) | (go_at_call 124; fail))
  refine ke.mono ?_
  rintro e w1 ⟨rfl,hb1⟩
  have h1:=bstay HA.out hb1 hlt
  clear hW c0 c1 c2 c3 c4 ke
  have c2:w1.cell? ⟨w.heap.size,2,none⟩=some (.int .i64 0):=bcell h1 rfl
  have c4:w1.cell? ⟨w.heap.size,4,none⟩=some (.slice none 0 0):=bcell h1 rfl
  have km:=marks_nil w1
  go_wp2_with (go_at_call 125; refine km.mono ?_; rintro e w2 ⟨rfl,hb2⟩)
  go_ret
  exact ⟨rfl,hb.trans ((hb1.trans (hb2.mono hb1.size)).mono hb.size)⟩
theorem spec_nil (sn:ByteArray) (w:World) (hs:sn.size <= 1048576):Calls Tryz.prog 45 #[.agg #[.string sn,.int .i64 0,.int .i64 0,.slice none 0 0,.slice none 0 0]] w fun e w'=>e=.returned (.bool (okB sn 0 0 [] []))/\Below w.heap.size w w':=by
 rw [ok_nil]
 have hb:=fl.bl w (.cells #[.string sn,.int .i64 0,.int .i64 0,.slice none 0 0,.slice none 0 0] 54)
 have hA:=bnew w #[.string sn,.int .i64 0,.int .i64 0,.slice none 0 0,.slice none 0 0] 54
 obtain ⟨W,hW⟩:∃ W,w.alloc (.cells #[.string sn,.int .i64 0,.int .i64 0,.slice none 0 0,.slice none 0 0] 54)=W:=⟨_,rfl⟩
 rw [hW] at hb hA
 obtain ⟨c0,c1,c2,c3,c4⟩:=fl.q5 hA
 have kn:=fun W=>nm.spec_name sn W hs
 have f0:decide ((0:Int) <= 0/\(0:Int) <= 1000000000)=true:=by decide
 have f1:decide ((0:Int) <= 0/\(0:Int) <= 0)=true:=by decide
 clear hA
 cases q1:nm.good sn with
 | false =>
  simp only [q1] at kn
  go_enter Tryz.func45,Tryz.ntmps45
  go_wp2_with (go_at_call 91; refine (kn _).mono ?_; rintro e w0 ⟨rfl,hw0⟩; rw [<- hw0]; clear hw0 w0)
  go_ret
  exact ⟨rfl,hb⟩
 | true =>
  simp only [q1] at kn
  go_enter Tryz.func45,Tryz.ntmps45
  go_wp2_with (first | (go_at_call 91; refine (kn _).mono ?_; rintro e w0 ⟨rfl,hw0⟩; rw [<- hw0]; clear hw0 w0) | (go_at_call 92; refine (ky.within _ _ _ _).mono ?_; rintro e w0 ⟨rfl,hw0⟩; rw [<- hw0]; clear hw0 w0; try rw [f0]; try rw [f1]))
  go_loopw [3,4] (fun v _ wr=>v=.int .i64 0/\wr=W) (fun _ _ _=>0)
  case atStart=>exact ⟨rfl,rfl⟩
  case round =>
   obtain ⟨rfl,hwr⟩:=hrel
   obtain rfl:=hwr.symm
   go_wp2
   go_loopw [5,6] (fun v _ wq=>v=.int .i64 0/\wq=W) (fun _ _ _=>0)
   case atStart=>exact ⟨rfl,rfl⟩
   case round =>
    obtain ⟨rfl,hwq⟩:=hrel
    obtain rfl:=hwq.symm
    go_wp2
    go_ret
    exact ⟨rfl,hb⟩
end Go.Proofs.YtaoefccgdfcchaaGreat.sno
