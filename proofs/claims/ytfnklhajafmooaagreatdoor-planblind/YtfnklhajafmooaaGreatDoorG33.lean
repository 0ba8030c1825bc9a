import Derived.Test.YtfnklhajafmooaaGreatDoorG32
import Derived.Test.YtfnklhajafmooaaGreatDoorG25
import Derived.Test.YtfnklhajafmooaaGreatDoorG26
namespace Go.Proofs.YtfnklhajafmooaaGreatDoor.Po.Pn
open Go.RowKit Go.Lib
def cls (e:Tr.Ef):Int × Int:=if e.kind=1 then (1,e.file) else if e.kind=2\/e.kind=3\/e.kind=4 then (2,e.file) else if e.kind=5 then (3,e.file) else if e.kind=6 then (3,e.gone) else (0,0)
def byO (S:Ps)(f:Int):Nat:=S.R.findIdx fun o=>decide (o.ow=f)
def hdQ (S:Ps):Nat:=(S.Q.head?).getD 0
def rowT (S:Ps)(L:List Nat)(c:Int × Int):Nat × Ps :=
 if c.1=1 then (hdQ S,asgS (popS S) (hdQ S) c.2)
 else if c.1=2 then (if byO S c.2∈L then (hdQ S,popS S) else (byO S c.2,S))
 else if c.1=3 then (if byO S c.2∈L then (hdQ S,popS (relS S (byO S c.2))) else (byO S c.2,relS S (byO S c.2)))
 else (hdQ S,popS S)
def tch1 (x:List Nat × Ps)(c:Int × Int):List Nat × Ps:=(x.1++[(rowT x.2 x.1 c).1],(rowT x.2 x.1 c).2)
def tchL (S:Ps)(C:List (Int × Int)):List Nat × Ps:=C.foldl tch1 ([],S)
theorem jMj (S:Ps)(C:List (Int × Int))(k:Nat)(c:Int × Int)(h:C[k]?=some c):tchL S (C.take (k+1))=tch1 (tchL S (C.take k)) c:=by
 unfold tchL
 rw[List.take_add_one,h,List.foldl_append]
 rfl
def owAt (S:Ps)(i:Nat):Int:=(jC9 S (i:Int)).ow
def psh1 (S:Ps)(i:Nat):Ps:=if owAt S i=-1 then jJ8 S (i:Int) else S
def pshL (S:Ps)(L:List Nat):Ps:=L.foldl psh1 S
theorem jIz {S:Ps}{i:Nat}{o:Ob}(h:S.R[i]?=some o):owAt S i=o.ow:=by
 unfold owAt jC9
 rw[Int.toNat_natCast,h]
 rfl
theorem byO_get {S:Ps}{f:Int}(h:jD7 S.R f=true):∃o,S.R[byO S f]?=some o/\o.ow=f:=by
 unfold jD7 at h
 unfold byO
 have h1:=List.findIdx_lt_length_of_exists (p:=fun o:Ob=>decide (o.ow=f)) (xs:=S.R) (List.any_eq_true.1 h)
 exact ⟨_,Qv h1,Qg (List.findIdx_getElem (w:=h1))⟩
theorem jGv {R:List Ob}{f:Int}:jD7 R f=true↔∃(i:Nat) (o:Ob),R[i]?=some o/\o.ow=f:=by
 unfold jD7
 rw[List.any_eq_true]
 constructor
 ·rintro ⟨o,ho,e⟩
  obtain ⟨i,hi⟩:=List.mem_iff_getElem?.1 ho
  exact ⟨i,o,hi,Qg e⟩
 ·rintro ⟨i,o,hi,e⟩
  exact ⟨o,List.mem_iff_getElem?.2 ⟨i,hi⟩,QQ e⟩
structure Bt (K:Nat)(P S:Ps)(L:List Nat)(h:Nat->Prop):Prop where
 good:Good S
 hold:∀x:Nat,h x↔jD7 S.R (x:Int)=true
 nd:L.Nodup
 lt:∀i,i∈L->i<S.R.length
 out:∀i,i∈L->i ∉ S.Q
 dm:∀(i:Nat) o,S.R[i]?=some o->o.ow=-1->i∈S.Q\/i∈L
 ql:K<=S.Q.length+L.length
 same:∀i,i ∉ L->S.R[i]?=P.R[i]?
 que:P.Q=(L.filter fun i=>decide (owAt P i=-1))++S.Q
 fl:S.fl=P.fl
 len:S.R.length=P.R.length
 pd:∀i,i∈P.Q->owAt P i=-1
theorem hd_cons {S:Ps}(h:0<S.Q.length):∃Q,S.Q=hdQ S :: Q:=by
 unfold hdQ
 cases hq:S.Q with
 | nil=>rw[hq] at h;simp at h
 | cons a l=>exact ⟨l,rfl⟩
theorem popS_tail {S:Ps}{a:Nat}{Q:List Nat}(h:S.Q=a :: Q):popS S=⟨S.fl,S.R,Q⟩:=by
 unfold popS
 rw[h]
 rfl
theorem Bt.pop {K:Nat}{P S:Ps}{L:List Nat}{h:Nat->Prop}(b:Bt K P S L h)(hl:L.length<K):Bt K P (popS S) (L++[hdQ S]) h/\popE S=0/\popY S=(hdQ S:Int)/\outL (popS S) (hdQ S)=true/\hdQ S<S.R.length/\rowN (popS S) (hdQ S):=by
 have hq0:0<S.Q.length:=by have:=b.ql;omega
 obtain ⟨Q,hQ⟩:=hd_cons hq0
 obtain ⟨o,ho,how,hrn,-,hout⟩:=popped b.good hQ
 have hp:=popS_tail hQ
 have hnd:=b.good.qn
 rw[hQ] at hnd
 have hni:=(List.nodup_cons.1 hnd).1
 have hmem:hdQ S∈S.Q:=by rw[hQ];simp
 have hnL:hdQ S ∉ L:=fun hm=>b.out _ hm hmem
 refine ⟨⟨good_pop b.good,fun x=>by rw[b.hold,hp],?_,?_,?_,?_,?_,?_,?_,by rw[hp];exact b.fl,by rw[hp];exact b.len,b.pd⟩,?_,?_,hout,jAy ho,hrn⟩
 ·exact List.nodup_append.2 ⟨b.nd,by simp,fun a ha c hc=>by simp at hc;subst hc;intro e;subst e;exact hnL ha⟩
 ·intro i hi
  rw[hp]
  rcases List.mem_append.1 hi with h1 | h1
  ·exact b.lt i h1
  ·simp at h1;subst h1;exact jAy ho
 ·intro i hi
  rw[hp]
  rcases List.mem_append.1 hi with h1 | h1
  ·intro h2
   exact b.out i h1 (by rw[hQ];exact QA _ h2)
  ·simp at h1;subst h1;exact hni
 ·intro i o' hi ho'
  rw[hp] at hi ⊢
  rcases b.dm i o' hi ho' with h1 | h1
  ·rw[hQ] at h1
   rcases List.mem_cons.1 h1 with h2 | h2
   ·right;simp[h2]
   ·exact .inl h2
  ·right;simp[h1]
 ·rw[hp]
  have:=b.ql
  rw[hQ] at this
  simp at this ⊢
  omega
 ·intro i hi
  rw[hp]
  exact b.same i (fun h1=>hi (by simp[h1]))
 ·have hpd:owAt P (hdQ S)=-1:=b.pd _ (by rw[b.que];exact List.mem_append.2 (.inr hmem))
  rw[hp,List.filter_append]
  simp only[List.filter_cons,hpd,decide_true,if_true,List.filter_nil,List.append_assoc,List.cons_append,List.nil_append]
  rw[<-hQ]
  exact b.que
 ·unfold popE
  rw[if_neg (by rw[hQ];simp)]
 ·rfl
theorem Bt.touch {K:Nat}{P S:Ps}{L:List Nat}{h:Nat->Prop}(b:Bt K P S L h){i:Nat}{o:Ob}(hi:S.R[i]?=some o)(ho:o.ow≠-1)(hn:i ∉ L):Bt K P S (L++[i]) h:=by
 have hiQ:i ∉ S.Q:=fun hm=>by
  obtain ⟨o',h1,h2⟩:=b.good.qd i hm
  rw[hi] at h1
  obtain rfl:=QW h1
  exact ho h2
 refine ⟨b.good,b.hold,?_,?_,?_,?_,?_,?_,?_,b.fl,b.len,b.pd⟩
 ·exact List.nodup_append.2 ⟨b.nd,by simp,fun a ha c hc=>by simp at hc;subst hc;intro e;subst e;exact hn ha⟩
 ·intro j hj
  rcases List.mem_append.1 hj with h1 | h1
  ·exact b.lt j h1
  ·simp at h1;subst h1;exact jAy hi
 ·intro j hj
  rcases List.mem_append.1 hj with h1 | h1
  ·exact b.out j h1
  ·simp at h1;subst h1;exact hiQ
 ·intro j o' hj ho'
  rcases b.dm j o' hj ho' with h1 | h1
  ·exact .inl h1
  ·right;simp[h1]
 ·have:=b.ql
  simp
  omega
 ·intro j hj
  exact b.same j (fun h1=>hj (by simp[h1]))
 ·have e:owAt P i≠-1:=by
   rw[jIz ((b.same i hn).symm.trans hi)]
   exact ho
  rw[List.filter_append]
  simp only[List.filter_cons,e,decide_false,List.filter_nil,List.append_nil,Bool.false_eq_true,if_false]
  exact b.que
theorem Bt.own {K:Nat}{P S:Ps}{L:List Nat}{h h':Nat->Prop}(b:Bt K P S L h){i:Nat}{o:Ob}(hi:S.R[i]?=some o)(hL:i∈L)(f:Int)(hg:Good (putP S i (owO o f)))(hh:∀x:Nat,h' x↔((x:Int)=f\/((x:Int)≠o.ow/\h x))):Bt K P (putP S i (owO o f)) L h':=by
 have hl:=jAy hi
 have hs:=@set_get S.R i (owO o f) hl
 refine ⟨hg,?_,b.nd,?_,b.out,?_,b.ql,?_,b.que,b.fl,?_,b.pd⟩
 ·intro x
  rw[hh x,jGv]
  constructor
  ·rintro (e | ⟨e,hx⟩)
   ·exact ⟨i,owO o f,by show (S.R.set i _)[i]?=_;rw[hs,if_pos rfl],e.symm⟩
   ·obtain ⟨j,o',hj,hoj⟩:=jGv.1 ((b.hold x).1 hx)
    refine ⟨j,o',?_,hoj⟩
    show (S.R.set i _)[j]?=_
    rw[hs,if_neg (fun e2=>?_),hj]
    subst e2
    rw[hi] at hj
    obtain rfl:=QW hj
    exact e hoj.symm
  ·rintro ⟨j,o',hj,hoj⟩
   change (S.R.set i _)[j]?=_ at hj
   rw[hs] at hj
   by_cases e:i=j
   ·rw[if_pos e] at hj
    obtain rfl:=QW hj
    exact .inl hoj.symm
   ·rw[if_neg e] at hj
    refine .inr ⟨fun e2=>?_,(b.hold x).2 (jGv.2 ⟨j,o',hj,hoj⟩)⟩
    exact e (b.good.ou i j o o' hi hj (by rw[hoj,e2]) (by rw[<-e2];omega))
 ·intro j hj
  show j<(S.R.set i _).length
  rw[List.length_set]
  exact b.lt j hj
 ·intro j o' hj ho'
  change (S.R.set i _)[j]?=_ at hj
  rw[hs] at hj
  by_cases e:i=j
  ·subst e
   exact .inr hL
  ·rw[if_neg e] at hj
   exact b.dm j o' hj ho'
 ·intro j hj
  show (S.R.set i _)[j]?=_
  rw[hs,if_neg (fun (e:i=j)=>hj (e▸hL))]
  exact b.same j hj
 ·show (S.R.set i _).length=_
  rw[List.length_set]
  exact b.len
theorem low_free (T:Tr.Ts):¬Tr.tkF T (Tr.lowL T.F):=by
 rintro ⟨r,hr⟩
 unfold Tr.lowL at hr
 obtain ⟨h1,h2⟩:=QV.1 hr
 have:=List.findIdx_getElem (w:=h1)
 rw[h2] at this
 cases this
theorem cls_no:cls Tr.Ef.no=(0,0):=rfl
theorem Bt.step {K:Nat}{P S:Ps}{L:List Nat}{T T':Tr.Ts}{e:Tr.Ef}(b:Bt K P S L (Tr.tkF T))(hl:L.length<K)(hs:Tr.Say T e T')(hf:∀x,Tr.tkF T' x->x<S.fl):Bt K P (tch1 (L,S) (cls e)).2 (tch1 (L,S) (cls e)).1 (Tr.tkF T'):=by
 show Bt K P (rowT S L (cls e)).2 (L++[(rowT S L (cls e)).1]) (Tr.tkF T')
 have hx:∀{h h':Nat->Prop} {S:Ps} {L:List Nat},(∀x,h' x↔h x)->Bt K P S L h->Bt K P S L h':=fun e b=>⟨b.good,fun x=>(e x).trans (b.hold x),b.nd,b.lt,b.out,b.dm,b.ql,b.same,b.que,b.fl,b.len,b.pd⟩
 cases hs with
 | none he hi =>
   subst he
   rw[cls_no]
   exact hx hi (b.pop hl).1
 | made hk hfi _ hi =>
   have hc:cls e=(1,(Tr.lowL T.F:Int)):=by unfold cls;rw[if_pos hk,hfi]
   rw[hc]
   obtain ⟨b',-,-,ho,hlt,hrn⟩:=b.pop hl
   show Bt K P (asgS (popS S) (hdQ S) (Tr.lowL T.F)) (L++[hdQ S]) _
   have hR:(popS S).R=S.R:=rfl
   have hg:=jH7 hrn
   rw[Int.toNat_natCast] at hg
   have hnh:jD7 (popS S).R (Tr.lowL T.F:Int)=false:=by
    cases hc:jD7 (popS S).R (Tr.lowL T.F:Int) with
    | false=>rfl
    | true=>exact absurd ((b.hold _).2 hc) (low_free T)
   have hfl:jF7 (popS S) (Tr.lowL T.F:Int):=⟨by omega,by have:=hf (Tr.lowL T.F) ((hi _).2 (.inl rfl));show _<((S.fl:Nat):Int);omega⟩
   have hE:asgE (popS S) (hdQ S) (Tr.lowL T.F:Int)=0:=by
    unfold asgE
    rw[if_pos hrn,if_pos hfl,if_pos ⟨ho,hnh⟩]
   have hA:asgS (popS S) (hdQ S) (Tr.lowL T.F:Int)=putP (popS S) (hdQ S) (owO (jC9 (popS S) (hdQ S)) (Tr.lowL T.F)):=by
    unfold asgS
    rw[if_pos hE,Int.toNat_natCast]
   have hgd:=good_asgS b'.good (hdQ S) (Tr.lowL T.F:Int)
   rw[hA] at hgd ⊢
   refine b'.own hg (by simp) _ hgd fun x=>?_
   rw[hi x,(jHy.1 ho).1]
   constructor
   ·rintro (rfl | h1)
    ·exact .inl rfl
    ·exact .inr ⟨by omega,h1⟩
   ·rintro (h1 | h1)
    ·exact .inl (by omega)
    ·exact .inr h1.2
 | touch n hk hfi _ hn hi =>
   have hk1:e.kind≠1:=by omega
   have hc:cls e=(2,(n:Int)):=by unfold cls;rw[if_neg hk1,if_pos hk,hfi]
   rw[hc]
   obtain ⟨o,ho,how⟩:=byO_get ((b.hold n).1 hn)
   show Bt K P (if byO S n∈L then (hdQ S,popS S) else (byO S n,S)).2 (L++[(if byO S n∈L then (hdQ S,popS S) else (byO S n,S)).1]) _
   by_cases hm:byO S n∈L
   ·rw[if_pos hm]
    exact hx hi (b.pop hl).1
   ·rw[if_neg hm]
    exact hx hi (b.touch ho (by omega) hm)
 | gone n hk hfi hn hi =>
   have hc:cls e=(3,(n:Int)):=by unfold cls;rw[if_neg (by omega),if_neg (by omega),if_pos hk,hfi]
   rw[hc]
   exact rel_step b hl hn hi
 | over n g hk hfi hgo _ hn hng hi =>
   have hc:cls e=(3,(g:Int)):=by unfold cls;rw[if_neg (by omega),if_neg (by omega),if_neg (by omega),if_pos hk,hgo]
   rw[hc]
   exact rel_step b hl hn hi
where
 rel_step {K:Nat} {P S:Ps} {L:List Nat} {T T':Tr.Ts} (b:Bt K P S L (Tr.tkF T)) (hl:L.length<K) {n:Nat} (hn:Tr.tkF T n) (hi:∀x,Tr.tkF T' x↔x≠n/\Tr.tkF T x):Bt K P (rowT S L (3,(n:Int))).2 (L++[(rowT S L (3,(n:Int))).1]) (Tr.tkF T'):=by
  obtain ⟨o,ho,how⟩:=byO_get ((b.hold n).1 hn)
  have hrn:rowN S (byO S n:Int):=⟨by omega,by have:=jAy ho;omega⟩
  have hra:jC9 S (byO S n:Int)=o:=by
   have:=jH7 hrn
   rw[Int.toNat_natCast,ho] at this
   exact (QW this).symm
  have hE:relE S (byO S n:Int)=0:=by
   unfold relE
   rw[if_pos hrn,if_neg (by rw[hra];omega)]
  have hA:relS S (byO S n:Int)=putP S (byO S n) (owO o (-1)):=by
   unfold relS
   rw[if_pos hE,Int.toNat_natCast,hra]
  have hgd:=good_relS b.good (byO S n:Int)
  rw[hA] at hgd
  have hcl:∀x:Nat,Tr.tkF T' x↔((x:Int)=-1\/((x:Int)≠o.ow/\Tr.tkF T x)):=fun x=>by
   rw[hi x,how]
   constructor
   ·rintro ⟨h1,h2⟩
    exact .inr ⟨by omega,h2⟩
   ·rintro (h1 | ⟨h1,h2⟩)
    ·omega
    ·exact ⟨by omega,h2⟩
  show Bt K P (if byO S n∈L then (hdQ S,popS (relS S (byO S n))) else (byO S n,relS S (byO S n))).2 (L++[(if byO S n∈L then (hdQ S,popS (relS S (byO S n))) else (byO S n,relS S (byO S n))).1]) _
  by_cases hm:byO S n∈L
  ·rw[if_pos hm,hA]
   have b2:=b.own ho hm (-1) hgd hcl
   exact (b2.pop hl).1
  ·rw[if_neg hm,hA]
   have b2:=b.touch ho (by omega) hm
   exact b2.own ho (by simp) (-1) hgd hcl
theorem psh_take (S:Ps)(L:List Nat)(k i:Nat)(h:L[k]?=some i):pshL S (L.take (k+1))=psh1 (pshL S (L.take k)) i:=by
 unfold pshL
 rw[List.take_add_one,h,List.foldl_append]
 rfl
theorem psh_all {S:Ps}{L:List Nat}(hG:Good S)(hn:L.Nodup)(hl:∀i,i∈L->i<S.R.length)(ho:∀i,i∈L->i ∉ S.Q):∀k,k<=L.length->Good (pshL S (L.take k))/\pshL S (L.take k)=⟨S.fl,S.R,S.Q++(L.take k).filter fun i=>decide (owAt S i=-1)⟩
 | 0,_=>by
   rw[List.take_zero]
   refine ⟨hG,?_⟩
   show S=_
   simp
 | k+1,hk=>by
   obtain ⟨h1,h2⟩:=psh_all hG hn hl ho k (by omega)
   have hi:L[k]?=some (L[k]'(by omega)):=Qv (by omega)
   rw[psh_take S L k _ hi]
   have hm:L[k]'(by omega)∈L:=List.getElem_mem _
   generalize hj:L[k]'(by omega)=j at *
   have hnt:j ∉ L.take k:=fun hx=>by
    obtain ⟨i,hi2⟩:=List.mem_iff_getElem?.1 hx
    rw[List.getElem?_take] at hi2
    split at hi2
    ·have:=(List.getElem?_inj (jAy hi2) hn).1 (hi2.trans hi.symm)
     omega
    ·cases hi2
   have hlt:=hl j hm
   have how:owAt (pshL S (L.take k)) j=owAt S j:=by rw[h2];rfl
   rw[List.take_add_one,hi,List.filter_append]
   unfold psh1
   rw[how]
   by_cases e:owAt S j=-1
   ·rw[if_pos e]
    have hE:jJ0 (pshL S (L.take k)) (j:Int)=0:=by
     have hrn:rowN (pshL S (L.take k)) (j:Int):=⟨by omega,by rw[h2];show (j:Int)<(S.R.length:Int);omega⟩
     unfold jJ0
     rw[if_pos hrn,if_pos (jHy.2 ⟨how.trans e,?_⟩)]
     rw[Int.toNat_natCast,h2]
     intro hx
     rcases List.mem_append.1 hx with h3 | h3
     ·exact ho j hm h3
     ·exact hnt (List.mem_filter.1 h3).1
    refine ⟨good_pushS h1 _,?_⟩
    unfold jJ8
    rw[if_pos hE,h2]
    unfold jL6
    simp[e]
   ·rw[if_neg e]
    refine ⟨h1,?_⟩
    rw[h2]
    simp[e]
theorem rng_cnt (p:Ob->Bool):∀R:List Ob,((List.range R.length).filter fun i=>match R[i]? with | some o=>p o | none=>false).length=(R.filter p).length:=fun R=>by
 have:∀n,n<=R.length->((List.range n).filter fun i=>match R[i]? with | some o=>p o | none=>false).length=((R.take n).filter p).length:=fun n=>by
  induction n with
  | zero=>intro _;rfl
  | succ n ih =>
    intro hn
    rw[List.range_succ,List.filter_append,List.length_append,ih (by omega),List.take_add_one,List.filter_append,List.length_append,Qv (by omega)]
    congr 1
    simp only[List.filter_cons,List.filter_nil,Option.toList_some,Qv (show n<R.length by omega)]
    split <;> rfl
 have h:=this R.length (Qj _)
 rw[Qh] at h
 exact h
theorem jJq {S:Ps}(hG:Good S):S.Q.length+cntO S.R=S.R.length↔∀(i:Nat) o,S.R[i]?=some o->o.ow=-1->i∈S.Q:=by
 have hd:=dm_all S.R
 unfold dmL at hd
 rw[Qh,<-rng_cnt] at hd
 obtain ⟨D,hD⟩:∃D,((List.range S.R.length).filter fun i=>match S.R[i]? with | some o=>decide (o.ow=-1) | none=>false)=D:=⟨_,rfl⟩
 rw[hD] at hd
 have hmem:∀i,i∈D↔∃o,S.R[i]?=some o/\o.ow=-1:=fun i=>by
  rw[<-hD,List.mem_filter,List.mem_range]
  constructor
  ·rintro ⟨h1,h2⟩
   rw[Qv h1] at h2
   exact ⟨_,Qv h1,Qg h2⟩
  ·rintro ⟨o,h1,h2⟩
   refine ⟨jAy h1,?_⟩
   rw[h1]
   exact QQ h2
 have hDn:D.Nodup:=by rw[<-hD];exact List.nodup_range.filter _
 constructor
 ·intro h i o hi ho
  apply Classical.byContradiction
  intro hn
  have:=jG8 (i :: S.Q) D (List.nodup_cons.2 ⟨hn,hG.qn⟩) (fun x hx=>by
   rcases List.mem_cons.1 hx with rfl | hx
   ·exact (hmem _).2 ⟨o,hi,ho⟩
   ·exact (hmem _).2 (hG.qd x hx))
  simp at this
  omega
 ·intro h
  have h1:=jG8 S.Q D hG.qn (fun x hx=>(hmem x).2 (hG.qd x hx))
  have h2:=jG8 D S.Q hDn (fun x hx=>by
   obtain ⟨o,h3,h4⟩:=(hmem x).1 hx
   exact h x o h3 h4)
  omega
structure Dk (c:Ix.Cn)(T:Tr.Ts)(dp:Nat->Nat)(P:Ps):Prop where
 inv:Tr.Inv T dp
 fr:T.fr=c.fl
 dr:T.dr=c.dr+1
 most:T.most=c.mf
 good:Good P
 pfl:P.fl=c.fl
 len:P.R.length=c.fl+c.sl
 set:P.Q.length+cntO P.R=P.R.length
 hold:∀x:Nat,Tr.tkF T x↔jD7 P.R (x:Int)=true
theorem Dk.bt {c:Ix.Cn}{T:Tr.Ts}{dp:Nat->Nat}{P:Ps}(d:Dk c T dp P):Bt c.sl P P [] (Tr.tkF T):=by
 refine ⟨d.good,d.hold,List.nodup_nil,fun i hi=>(by cases hi),fun i hi=>(by cases hi),fun i o hi ho=>.inl ((jJq d.good).1 d.set i o hi ho),?_,fun _ _=>rfl,by simp,rfl,rfl,fun i hi=>?_⟩
 ·have h1:=d.set
  have h2:=cnt_le d.good
  rw[d.pfl] at h2
  have:=d.len
  simp
  omega
 ·obtain ⟨o,h1,h2⟩:=d.good.qd i hi
  rw[jIz h1,h2]
noncomputable def st1 (x:List (Tr.Rs × Tr.Ef) × Tr.Ts)(o:Tr.Op):List (Tr.Rs × Tr.Ef) × Tr.Ts:=(x.1++[((Tr.doT x.2 o).1,(Tr.doT x.2 o).2.1)],(Tr.doT x.2 o).2.2)
noncomputable def doL (T:Tr.Ts)(O:List Tr.Op):List (Tr.Rs × Tr.Ef) × Tr.Ts:=O.foldl st1 ([],T)
theorem jK4 (T:Tr.Ts)(O:List Tr.Op)(k:Nat)(o:Tr.Op)(h:O[k]?=some o):doL T (O.take (k+1))=st1 (doL T (O.take k)) o:=by
 unfold doL
 rw[List.take_add_one,h,List.foldl_append]
 rfl
theorem jJv (T:Tr.Ts)(O:List Tr.Op):∀k,k<=O.length->(doL T (O.take k)).1.length=k
 | 0,_=>by rw[List.take_zero];rfl
 | k+1,h=>by
   rw[jK4 T O k _ (Qv (by omega))]
   unfold st1
   simp[jJv T O k (by omega)]
theorem jK5 {T:Tr.Ts}{dp:Nat->Nat}(hv:Tr.Inv T dp)(O:List Tr.Op):∀k,k<=O.length->(∃dp',Tr.Inv (doL T (O.take k)).2 dp')/\Tr.Room (doL T (O.take k)).2 T
 | 0,_=>by rw[List.take_zero];exact ⟨⟨dp,hv⟩,Tr.Room.rfl' T⟩
 | k+1,h=>by
   obtain ⟨⟨dp',h1⟩,h2⟩:=jK5 hv O k (by omega)
   rw[jK4 T O k _ (Qv (by omega))]
   refine ⟨Tr.inv_do h1 _,?_⟩
   obtain ⟨a1,a2,a3⟩:=Tr.do_room (T:=(doL T (O.take k)).2) (o:=O[k]'(by omega))
   exact ⟨a1.trans h2.1,a2.trans h2.2.1,a3.trans h2.2.2⟩
theorem doL_get (T:Tr.Ts)(O:List Tr.Op)(i:Nat)(hi:i<O.length):∀k,i<k->k<=O.length->(doL T (O.take k)).1[i]?=some ((Tr.doT (doL T (O.take i)).2 (O[i]'hi)).1,(Tr.doT (doL T (O.take i)).2 (O[i]'hi)).2.1)
 | 0,h,_=>by omega
 | k+1,h,hk=>by
   rw[jK4 T O k _ (Qv (by omega))]
   have hl:=jJv T O k (by omega)
   show ((doL T (O.take k)).1++[_])[i]?=_
   by_cases e:i=k
   ·subst e
    rw[Qd (by omega),hl,Nat.sub_self]
    rfl
   ·rw[List.getElem?_append_left (by omega)]
    exact doL_get T O i hi k (by omega) (by omega)
def clsL (st:List (Tr.Rs × Tr.Ef))(K:Nat):List (Int × Int):=(st.map fun s=>cls s.2)++List.replicate (K-st.length) (0,0)
theorem jJ6 {st:List (Tr.Rs × Tr.Ef)}{K:Nat}(h:st.length<=K):(clsL st K).length=K:=by unfold clsL;simp;omega
theorem clsL_in {st:List (Tr.Rs × Tr.Ef)}{K k:Nat}{s:Tr.Rs × Tr.Ef}(h:st[k]?=some s):(clsL st K)[k]?=some (cls s.2):=by
 unfold clsL
 rw[List.getElem?_append_left (by simpa using jAy h),List.getElem?_map,h]
 rfl
theorem clsL_out {st:List (Tr.Rs × Tr.Ef)}{K k:Nat}(h:st.length<=k)(hk:k<K):(clsL st K)[k]?=some (0,0):=by
 unfold clsL
 rw[Qd (by simpa using h),Qc,if_pos (by simp;omega)]
theorem tch_len (S:Ps)(C:List (Int × Int)):∀k,k<=C.length->(tchL S (C.take k)).1.length=k
 | 0,_=>by rw[List.take_zero];rfl
 | k+1,h=>by
   rw[jMj S C k _ (Qv (by omega))]
   unfold tch1
   simp[tch_len S C k (by omega)]
theorem bt_all {c:Ix.Cn}{T:Tr.Ts}{dp:Nat->Nat}{P:Ps}(d:Dk c T dp P)(O:List Tr.Op)(hO:O.length<=c.sl):∀k,k<=c.sl->Bt c.sl P (tchL P ((clsL (doL T O).1 c.sl).take k)).2 (tchL P ((clsL (doL T O).1 c.sl).take k)).1 (Tr.tkF (doL T (O.take k)).2)
 | 0,_=>by
   rw[List.take_zero,List.take_zero]
   exact d.bt
 | k+1,hk=>by
   have b:=bt_all d O hO k (by omega)
   have hl:(doL T O).1.length=O.length:=by have:=jJv T O O.length (Qj _);rwa [Qh] at this
   have hC:=jJ6 (st:=(doL T O).1) (K:=c.sl) (by omega)
   have hL:=tch_len P (clsL (doL T O).1 c.sl) k (by omega)
   by_cases hi:k<O.length
   ·have hs:(doL T O).1[k]?=some ((Tr.doT (doL T (O.take k)).2 (O[k]'hi)).1,(Tr.doT (doL T (O.take k)).2 (O[k]'hi)).2.1):=by
     have:=doL_get T O k hi O.length hi (Qj _)
     rwa [Qh] at this
    rw[jMj P _ k _ (clsL_in hs),jK4 T O k _ (Qv hi)]
    obtain ⟨⟨dp',hv⟩,hr⟩:=jK5 d.inv O k (by omega)
    refine b.step (by omega) (Tr.do_say hv _) fun x hx=>?_
    obtain ⟨dp2,hv2⟩:=Tr.inv_do hv (O[k]'hi)
    obtain ⟨r,hr2⟩:=hx
    change (Tr.doT (doL T (O.take k)).2 (O[k]'hi)).2.2.F[x]?=_ at hr2
    have h1:=jAy hr2
    have h2:=hv2.fl
    rw[(Tr.do_room (T:=(doL T (O.take k)).2) (o:=O[k]'hi)).1,hr.1,d.fr] at h2
    rw[b.fl,d.pfl]
    omega
   ·have e1:O.take (k+1)=O.take k:=by rw[Qf (by omega),Qf (by omega)]
    rw[jMj P _ k _ (clsL_out (by omega) (by omega)),e1]
    have:=b.step (by omega) (Tr.Say.none (T:=(doL T (O.take k)).2) (e:=Tr.Ef.no) rfl fun _=>Iff.rfl) fun x hx=>?_
    ·exact this
    ·obtain ⟨⟨dp',hv⟩,hr⟩:=jK5 d.inv O O.length (Qj _)
     rw[Qh] at hv hr
     rw[Qf (by omega)] at hx
     obtain ⟨r,hr2⟩:=hx
     have h1:=jAy hr2
     have h2:=hv.fl
     rw[hr.1,d.fr] at h2
     rw[b.fl,d.pfl]
     omega
noncomputable def jGx (c:Ix.Cn)(T:Tr.Ts)(P:Ps)(O:List Tr.Op):List Nat:=(tchL P (clsL (doL T O).1 c.sl)).1
noncomputable def midB (c:Ix.Cn)(T:Tr.Ts)(P:Ps)(O:List Tr.Op):Ps:=(tchL P (clsL (doL T O).1 c.sl)).2
noncomputable def endB (c:Ix.Cn)(T:Tr.Ts)(P:Ps)(O:List Tr.Op):Ps:=pshL (midB c T P O) (jGx c T P O)
theorem jNq {c:Ix.Cn}{T:Tr.Ts}{dp:Nat->Nat}{P:Ps}(d:Dk c T dp P)(O:List Tr.Op)(hO:O.length<=c.sl):Bt c.sl P (midB c T P O) (jGx c T P O) (Tr.tkF (doL T O).2)/\(jGx c T P O).length=c.sl:=by
 have hl:(doL T O).1.length=O.length:=by have:=jJv T O O.length (Qj _);rwa [Qh] at this
 have hC:=jJ6 (st:=(doL T O).1) (K:=c.sl) (by omega)
 have b:=bt_all d O hO c.sl (Qj _)
 have h:=tch_len P (clsL (doL T O).1 c.sl) c.sl (by omega)
 rw[Qf (Nat.le_of_eq hC),Qf hO] at b
 rw[Qf (Nat.le_of_eq hC)] at h
 exact ⟨b,h⟩
theorem end_eq {c:Ix.Cn}{T:Tr.Ts}{dp:Nat->Nat}{P:Ps}(d:Dk c T dp P)(O:List Tr.Op)(hO:O.length<=c.sl):Good (endB c T P O)/\endB c T P O=⟨(midB c T P O).fl,(midB c T P O).R,(midB c T P O).Q++(jGx c T P O).filter fun i=>decide (owAt (midB c T P O) i=-1)⟩:=by
 obtain ⟨b,hl⟩:=jNq d O hO
 have:=psh_all b.good b.nd b.lt b.out _ (Qj _)
 rw[Qh] at this
 exact this
theorem Dk.next {c:Ix.Cn}{T:Tr.Ts}{dp:Nat->Nat}{P:Ps}(d:Dk c T dp P)(O:List Tr.Op)(hO:O.length<=c.sl):∃dp',Dk c (doL T O).2 dp' (endB c T P O):=by
 obtain ⟨b,hl⟩:=jNq d O hO
 obtain ⟨hg,he⟩:=end_eq d O hO
 obtain ⟨⟨dp',hv⟩,hr⟩:=jK5 d.inv O O.length (Qj _)
 rw[Qh] at hv hr
 refine ⟨dp',hv,hr.1.trans d.fr,hr.2.1.trans d.dr,hr.2.2.trans d.most,hg,?_,?_,?_,?_⟩
 ·rw[he]
  exact b.fl.trans d.pfl
 ·rw[he]
  exact b.len.trans d.len
 ·rw[jJq hg]
  rw[he]
  intro i o hi ho
  rcases b.dm i o hi ho with h1 | h1
  ·exact List.mem_append.2 (.inl h1)
  ·exact List.mem_append.2 (.inr (List.mem_filter.2 ⟨h1,QQ ((jIz hi).trans ho)⟩))
 ·rw[he]
  exact b.hold
theorem sme_tk {T U:Tr.Ts}(h:Tr.Sme U.F T.F)(x:Nat):Tr.tkF U x↔Tr.tkF T x:=⟨fun ⟨r,hr⟩=>⟨r,(h x r).1 hr⟩,fun ⟨r,hr⟩=>⟨r,(h x r).2 hr⟩⟩
