import Derived.Test.YtfnklhajafmooaaGreatDoorG04
import Derived.Shelf.LaysM
import Derived.Shelf.Strconv.Clone
import Derived.Shelf.Slices.Turned
import Derived.Shelf.Slices.Equal
import Derived.Shelf.Slices.In.SortNone
import Derived.Shelf.Sort.Plain
namespace Go.Proofs.YtfnklhajafmooaaGreatDoor.Po
open Go.Proofs.Tryz
structure Ob where
 nm:ByteArray
 tg:ByteArray
 bk:Int
 ow:Int
structure Ps where
 fl:Nat
 R:List Ob
 Q:List Nat
def e0:ByteArray:={ data:=#[] }
def kyN (o:Ob):List UInt8:=o.nm.data.toList
theorem ba_ext {a b:ByteArray}(h:a.data.toList=b.data.toList):a=b:=by
 cases a;cases b
 simp only at h
 rw[Array.toList_inj.1 h]
theorem jAy {α:Type _}{l:List α}{i:Nat}{x:α}(h:l[i]?=some x):i<l.length:=(QV.1 h).1
def Is {K:Type}(key:Ob->K)(no:K)(R:List Ob)(f:K->Option Nat):Prop:=∀k i,f k=some i↔k≠no/\∃o,R[i]?=some o/\key o=k
theorem Is.move {K:Type}[DecidableEq K]{key:Ob->K}{no:K}{R:List Ob}{f:K->Option Nat}(h:Is key no R f){i:Nat}{was next:Ob}(hi:R[i]?=some was)(hf:key next≠no->∀j,f (key next)=some j->j=i) :
 Is key no (R.set i next) (fun k=>if k=key next/\key next≠no then some i else if k=key was then none else f k):=by
 have hl:=jAy hi
 have hs:∀j,(R.set i next)[j]?=if i=j then some next else R[j]?:=fun j=>by
  rw[List.getElem?_set]
  by_cases e:i=j
  ·rw[if_pos e,if_pos e,if_pos (e▸hl)]
  ·rw[if_neg e,if_neg e]
 intro k j
 rw[hs j]
 show (if k=key next/\key next≠no then some i else if k=key was then none else f k)=some j↔_
 by_cases h1:k=key next/\key next≠no
 ·rw[if_pos h1]
  obtain ⟨rfl,h2⟩:=h1
  by_cases e:i=j
  ·subst e
   rw[if_pos rfl]
   exact ⟨fun _=>⟨h2,next,rfl,rfl⟩,fun _=>rfl⟩
  ·rw[if_neg e]
   refine ⟨fun e2=>absurd (QW e2) e,fun ⟨_,o,ho,hk⟩=>?_⟩
   exact absurd (hf h2 j ((h _ j).2 ⟨h2,o,ho,hk⟩)).symm e
 ·rw[if_neg h1]
  by_cases h3:k=key was
  ·rw[if_pos h3]
   refine ⟨fun e=>(by cases e),fun ⟨h4,o,ho,hk⟩=>?_⟩
   by_cases e:i=j
   ·rw[if_pos e] at ho
    obtain rfl:=QW ho
    exact absurd ⟨hk.symm,hk▸h4⟩ h1
   ·rw[if_neg e] at ho
    have a:=(h k j).2 ⟨h4,o,ho,hk⟩
    have b:=(h k i).2 ⟨h4,was,hi,h3.symm⟩
    rw[a] at b
    exact absurd (QW b).symm e
  ·rw[if_neg h3,h k j]
   by_cases e:i=j
   ·subst e
    rw[if_pos rfl]
    refine ⟨fun ⟨h4,o,ho,hk⟩=>?_,fun ⟨h4,o,ho,hk⟩=>?_⟩
    ·rw[hi] at ho
     obtain rfl:=QW ho
     exact absurd hk.symm h3
    ·obtain rfl:=QW ho
     exact absurd ⟨hk.symm,hk▸h4⟩ h1
   ·rw[if_neg e]
structure Rng (room:List Nat)(h:Nat)(Q:List Nat):Prop where
 hm:h<room.length\/(room=[]/\h=0)
 le:Q.length<=room.length
 at_:∀j,j<Q.length->room[(h+j) % room.length]?=Q[j]?
theorem Rng.list {room:List Nat}{h:Nat}{Q:List Nat}(r:Rng room h Q):(room.take (min (h+Q.length) room.length)).drop h++room.take (Q.length-(min (h+Q.length) room.length-h))=Q:=by
 apply List.ext_getElem?
 intro j
 rcases r.hm with hh | ⟨rfl,rfl⟩
 ·by_cases hj:j<Q.length
  ·rw[<-r.at_ j hj]
   by_cases h1:h+j<room.length
   ·rw[Nat.mod_eq_of_lt h1,List.getElem?_append_left (by simp;omega),List.getElem?_drop,List.getElem?_take,if_pos (by omega)]
   ·have hle:=r.le
    have hmd:(h+j) % room.length=h+j-room.length:=by
     rw[Nat.mod_eq_sub_mod (by omega),Nat.mod_eq_of_lt (by omega)]
    rw[hmd,Qd (by simp;omega),List.getElem?_take,if_pos (by simp;omega)]
    congr 1
    simp
    omega
  ·rw[List.getElem?_eq_none (l:=Q) (by omega),List.getElem?_eq_none]
   have hle:=r.le
   simp
   omega
 ·have:=r.le
  simp at this
  subst this
  simp
theorem Rng.push {room:List Nat}{h:Nat}{Q:List Nat}(r:Rng room h Q)(hl:Q.length<room.length)(n:Nat):Rng (room.set ((h+Q.length) % room.length) n) h (Q++[n]):=by
 have hh:h<room.length:=by
  rcases r.hm with hh | ⟨rfl,rfl⟩
  ·exact hh
  ·simp at hl
 refine ⟨.inl (by simpa using hh),by simp;omega,fun j hj=>?_⟩
 simp only[List.length_append,List.length_singleton] at hj
 rw[List.length_set,List.getElem?_set]
 by_cases e:j=Q.length
 ·subst e
  rw[if_pos rfl,if_pos (Nat.mod_lt _ (by omega)),Qd (Qj _),Nat.sub_self]
  rfl
 ·have hj2:j<Q.length:=by omega
  rw[List.getElem?_append_left hj2,<-r.at_ j hj2,if_neg]
  intro e2
  have key:∀x,x<room.length->(h+x) % room.length=if h+x<room.length then h+x else h+x-room.length:=fun x hx=>by
   by_cases h1:h+x<room.length
   ·rw[if_pos h1,Nat.mod_eq_of_lt h1]
   ·rw[if_neg h1,Nat.mod_eq_sub_mod (by omega),Nat.mod_eq_of_lt (by omega)]
  rw[key _ hl,key _ (by omega)] at e2
  split at e2 <;> split at e2 <;> omega
theorem Rng.pop {room:List Nat}{h a:Nat}{Q:List Nat}(r:Rng room h (a :: Q)):h<room.length/\room[h]?=some a/\Rng room ((h+1) % room.length) Q:=by
 have hle:=r.le
 simp only[List.length_cons] at hle
 have hh:h<room.length:=by
  rcases r.hm with hh | ⟨rfl,rfl⟩
  ·exact hh
  ·simp at hle
 refine ⟨hh,?_,.inl (Nat.mod_lt _ (by omega)),by omega,fun j hj=>?_⟩
 ·have:=r.at_ 0 (by simp)
  rw[Nat.add_zero,Nat.mod_eq_of_lt hh] at this
  exact this
 ·have:=r.at_ (j+1) (by simp;omega)
  rw[List.getElem?_cons_succ] at this
  rw[<-this,Nat.mod_add_mod]
  congr 2
  omega
theorem rng_grown (Q:List Nat)(k:Nat)(hk:0<Q.length+k):Rng (Q++List.replicate k 0) 0 Q:=by
 refine ⟨.inl (by simp;omega),by simp,fun j hj=>?_⟩
 rw[Nat.zero_add,Nat.mod_eq_of_lt (by simp;omega),List.getElem?_append_left hj]
def jH2 (s:ByteArray):Prop:=s.size=0\/s.size=16
instance (s:ByteArray):Decidable (jH2 s):=by unfold jH2;infer_instance
def stored (o:Ob):Prop:=jH2 o.nm/\jH2 o.tg/\0<=o.bk/\o.bk<=1048576
instance (o:Ob):Decidable (stored o):=by unfold stored;infer_instance
def jD7 (R:List Ob)(f:Int):Bool:=R.any fun o=>decide (o.ow=f)
def jJj (R:List Ob)(n:ByteArray)(i:Nat):Bool:=decide (n.size≠0) && (List.range R.length).any fun j=>decide (j≠i) && (match R[j]? with | some o=>decide (o.nm=n) | none=>false)
structure Good (S:Ps):Prop where
 st:∀(i:Nat) o,S.R[i]?=some o->stored o/\-1<=o.ow/\o.ow<S.fl
 ou:∀(i j:Nat) o o',S.R[i]?=some o->S.R[j]?=some o'->o.ow=o'.ow->o.ow≠-1->i=j
 nu:∀(i j:Nat) o o',S.R[i]?=some o->S.R[j]?=some o'->o.nm=o'.nm->o.nm.size≠0->i=j
 qn:S.Q.Nodup
 qd:∀i,i∈S.Q->∃o,S.R[i]?=some o/\o.ow=-1
 fl:1<=S.fl/\S.fl<S.R.length/\S.R.length<=65600
theorem jJ7:∀(n:Nat) (l:List Nat),l.Nodup->(∀x,x∈l->x<n)->l.length<=n
 | 0,l,_,h=>by
   cases l with
   | nil=>exact Qj _
   | cons a l=>exact absurd (h a (by simp)) (by omega)
 | n+1,l,hn,h=>by
   by_cases hm:n∈l
   ·have h1:=List.length_erase_of_mem hm
    have h2:=jJ7 n (l.erase n) (hn.erase n) (fun x hx=>by
     have h3:=(hn.mem_erase_iff).1 hx
     have:=h x h3.2
     omega)
    have:=List.length_pos_of_mem hm
    omega
   ·have:=jJ7 n l hn (fun x hx=>by
     have:=h x hx
     have:x≠n:=fun e=>hm (e▸hx)
     omega)
    omega
theorem Good.ql {S:Ps}(h:Good S):S.Q.length<=S.R.length:=by
 exact jJ7 _ _ h.qn fun i hi=>by
  obtain ⟨o,ho,_⟩:=h.qd i hi
  exact jAy ho
theorem held_iff {R:List Ob}{f:Int->Option Nat}(h:Is Ob.ow (-1) R f)(k:Int)(hk:k≠-1):(f k).isSome=jD7 R k:=by
 unfold jD7
 cases hf:f k with
 | none =>
   symm
   rw[Option.isSome_none,List.any_eq_false]
   intro o ho e
   obtain ⟨i,hi⟩:=List.mem_iff_getElem?.1 ho
   have:=(h k i).2 ⟨hk,o,hi,Qg e⟩
   rw[hf] at this
   cases this
 | some i =>
   symm
   obtain ⟨_,o,ho,e⟩:=(h k i).1 hf
   rw[Option.isSome_some,List.any_eq_true]
   exact ⟨o,List.mem_iff_getElem?.2 ⟨i,ho⟩,by simp[e]⟩
def kyB (n:ByteArray):List UInt8:=n.data.toList
theorem kyB_nil {n:ByteArray}:kyB n=[]↔n.size=0:=by
 unfold kyB
 rw[<-List.length_eq_zero_iff]
 exact Iff.rfl
theorem other_iff {R:List Ob}{f:List UInt8->Option Nat}(h:Is kyN [] R f)(n:ByteArray)(i:Nat):(match f (kyB n) with | some j=>decide (j≠i) | none=>false)=jJj R n i:=by
 unfold jJj
 by_cases hn:n.size=0
 ·have e:f (kyB n)=none:=by
   cases hf:f (kyB n) with
   | none=>rfl
   | some j=>exact absurd (kyB_nil.2 hn) ((h _ j).1 hf).1
  rw[e]
  simp[hn]
 ·simp only[ne_eq,hn,not_false_eq_true,decide_true,Bool.true_and]
  have hk:kyB n≠[]:=fun e=>hn (kyB_nil.1 e)
  cases hf:f (kyB n) with
  | none =>
    symm
    rw[List.any_eq_false]
    intro j hj
    cases hR:R[j]? with
    | none=>simp
    | some o =>
      intro e
      simp at e
      have:=(h (kyB n) j).2 ⟨hk,o,hR,by unfold kyN kyB;rw[e.2]⟩
      rw[hf] at this
      cases this
  | some j =>
    obtain ⟨_,o,ho,e⟩:=(h _ j).1 hf
    by_cases hji:j=i
    ·subst hji
     show decide (j≠j)=_
     rw[QY (by simp)]
     symm
     rw[List.any_eq_false]
     intro k hk2
     cases hR:R[k]? with
     | none=>simp
     | some o' =>
       intro e2
       simp at e2
       have:=(h (kyB n) k).2 ⟨hk,o',hR,by unfold kyN kyB;rw[e2.2]⟩
       rw[hf] at this
       exact e2.1 (QW this).symm
    ·show decide (j≠i)=_
     rw[QQ hji]
     symm
     rw[List.any_eq_true]
     refine ⟨j,List.mem_range.2 (jAy ho),?_⟩
     rw[ho]
     simp only[hji,not_false_eq_true,decide_true,Bool.true_and,decide_eq_true_eq]
     exact ba_ext e
def rowN (S:Ps)(i:Int):Prop:=0<=i/\i<(S.R.length:Int)
instance (S:Ps)(i:Int):Decidable (rowN S i):=by unfold rowN;infer_instance
def jF7 (S:Ps)(f:Int):Prop:=0<=f/\f<(S.fl:Int)
instance (S:Ps)(f:Int):Decidable (jF7 S f):=by unfold jF7;infer_instance
def zOb:Ob:=⟨e0,e0,0,0⟩
def dOb:Ob:=⟨e0,e0,0,-1⟩
def jC9 (S:Ps)(i:Int):Ob:=(S.R[i.toNat]?).getD zOb
def outL (S:Ps)(i:Int):Bool:=decide ((jC9 S i).ow=-1) && !decide (i.toNat∈S.Q)
def putP (S:Ps)(i:Nat)(o:Ob):Ps:={ S with R:=S.R.set i o }
def jL6 (S:Ps)(i:Nat):Ps:={ S with Q:=S.Q++[i] }
def atE (S:Ps)(i:Int):Int:=if rowN S i then 0 else 131
def popE (S:Ps):Int:=if S.Q=[] then 131 else 0
def popY (S:Ps):Int:=((S.Q.head?).getD 0:Nat)
def popS (S:Ps):Ps:={ S with Q:=S.Q.tail }
def jJ0 (S:Ps)(i:Int):Int:=if rowN S i then (if outL S i=true then 0 else 132) else 131
def jJ8 (S:Ps)(i:Int):Ps:=if jJ0 S i=0 then jL6 S i.toNat else S
def owO (o:Ob)(f:Int):Ob:=⟨o.nm,o.tg,o.bk,f⟩
def asgE (S:Ps)(i f:Int):Int:=if rowN S i then (if jF7 S f then (if outL S i=true/\jD7 S.R f=false then 0 else 132) else 1) else 131
def asgS (S:Ps)(i f:Int):Ps:=if asgE S i f=0 then putP S i.toNat (owO (jC9 S i) f) else S
def relE (S:Ps)(i:Int):Int:=if rowN S i then (if (jC9 S i).ow=-1 then 132 else 0) else 131
def relS (S:Ps)(i:Int):Ps:=if relE S i=0 then putP S i.toNat (owO (jC9 S i) (-1)) else S
def jD9 (f s:Nat):Ps:=⟨f,List.replicate (f+s) dOb,[]⟩
def newP (f s:Nat):Ps:=⟨f,List.replicate (f+s) dOb,List.range (f+s)⟩
theorem jH7 {S:Ps}{i:Int}(h:rowN S i):S.R[i.toNat]?=some (jC9 S i):=by
 unfold jC9
 have:i.toNat<S.R.length:=by unfold rowN at h;omega
 rw[Qv this]
 rfl
theorem set_get {R:List Ob}{i:Nat}{o:Ob}(hl:i<R.length)(j:Nat):(R.set i o)[j]?=if i=j then some o else R[j]?:=by
 rw[List.getElem?_set]
 by_cases e:i=j
 ·rw[if_pos e,if_pos e,if_pos (e▸hl)]
 ·rw[if_neg e,if_neg e]
theorem good_put {S:Ps}(h:Good S){i:Nat}{was next:Ob}(hi:S.R[i]?=some was)(hst:stored next)(hlo:-1<=next.ow)(hhi:next.ow<(S.fl:Int))(ho:next.ow≠-1->∀(j:Nat) o,j≠i->S.R[j]?=some o->o.ow≠next.ow)
 (hn:next.nm.size≠0->∀(j:Nat) o,j≠i->S.R[j]?=some o->o.nm≠next.nm) (hq:i∈S.Q->next.ow=-1):Good (putP S i next):=by
 have hl:=jAy hi
 have hs:=@set_get S.R i next hl
 refine ⟨fun j o hj=>?_,fun j k o o' hj hk e e1=>?_,fun j k o o' hj hk e e1=>?_,h.qn,fun j hj=>?_,?_⟩
 ·change (S.R.set i next)[j]?=some o at hj
  rw[hs j] at hj
  by_cases e:i=j
  ·rw[if_pos e] at hj
   obtain rfl:=QW hj
   exact ⟨hst,hlo,hhi⟩
  ·rw[if_neg e] at hj
   exact h.st j o hj
 ·change (S.R.set i next)[j]?=some o at hj
  change (S.R.set i next)[k]?=some o' at hk
  rw[hs j] at hj
  rw[hs k] at hk
  by_cases a:i=j
  ·rw[if_pos a] at hj
   obtain rfl:=QW hj
   by_cases b:i=k
   ·omega
   ·rw[if_neg b] at hk
    exact absurd e.symm (ho e1 k o' (fun x=>b x.symm) hk)
  ·rw[if_neg a] at hj
   by_cases b:i=k
   ·rw[if_pos b] at hk
    obtain rfl:=QW hk
    exact absurd e (ho (e▸e1) j o (fun x=>a x.symm) hj)
   ·rw[if_neg b] at hk
    exact h.ou j k o o' hj hk e e1
 ·change (S.R.set i next)[j]?=some o at hj
  change (S.R.set i next)[k]?=some o' at hk
  rw[hs j] at hj
  rw[hs k] at hk
  by_cases a:i=j
  ·rw[if_pos a] at hj
   obtain rfl:=QW hj
   by_cases b:i=k
   ·omega
   ·rw[if_neg b] at hk
    exact absurd e.symm (hn e1 k o' (fun x=>b x.symm) hk)
  ·rw[if_neg a] at hj
   by_cases b:i=k
   ·rw[if_pos b] at hk
    obtain rfl:=QW hk
    exact absurd e (hn (e▸e1) j o (fun x=>a x.symm) hj)
   ·rw[if_neg b] at hk
    exact h.nu j k o o' hj hk e e1
 ·obtain ⟨o,h1,h2⟩:=h.qd j hj
  show ∃o,(S.R.set i next)[j]?=some o/\o.ow=-1
  rw[hs j]
  by_cases e:i=j
  ·rw[if_pos e]
   exact ⟨next,rfl,hq (e▸hj)⟩
  ·rw[if_neg e]
   exact ⟨o,h1,h2⟩
 ·have:=h.fl
  show 1<=S.fl/\S.fl<(S.R.set i next).length/\(S.R.set i next).length<=65600
  rw[List.length_set]
  exact this
theorem good_push {S:Ps}(h:Good S){i:Nat}{o:Ob}(hi:S.R[i]?=some o)(ho:o.ow=-1)(hq:i ∉ S.Q):Good (jL6 S i):=by
 refine ⟨h.st,h.ou,h.nu,?_,fun j hj=>?_,h.fl⟩
 ·show (S.Q++[i]).Nodup
  rw[List.nodup_append]
  exact ⟨h.qn,by simp,fun a ha b hb=>by
   simp only[List.mem_singleton] at hb
   subst hb
   exact fun e=>hq (e▸ha)⟩
 ·rcases List.mem_append.1 hj with h1 | h1
  ·exact h.qd j h1
  ·simp only[List.mem_singleton] at h1
   subst h1
   exact ⟨o,hi,ho⟩
theorem good_pop {S:Ps}(h:Good S):Good (popS S):=by
 refine ⟨h.st,h.ou,h.nu,?_,fun j hj=>h.qd j (List.mem_of_mem_tail hj),h.fl⟩
 have:=h.qn
 cases hq:S.Q with
 | nil=>show S.Q.tail.Nodup;rw[hq];simp
 | cons a l=>show S.Q.tail.Nodup;rw[hq] at this ⊢;exact (List.nodup_cons.1 this).2
theorem jHy {S:Ps}{i:Int}:outL S i=true↔(jC9 S i).ow=-1/\i.toNat ∉ S.Q:=by
 unfold outL
 simp
theorem good_pushS {S:Ps}(h:Good S)(i:Int):Good (jJ8 S i):=by
 unfold jJ8 jJ0
 by_cases h1:rowN S i
 ·rw[if_pos h1]
  by_cases h2:outL S i=true
  ·rw[if_pos h2,if_pos rfl]
   exact good_push h (jH7 h1) (jHy.1 h2).1 (jHy.1 h2).2
  ·rw[if_neg h2,if_neg (by decide)]
   exact h
 ·rw[if_neg h1,if_neg (by decide)]
  exact h
theorem held_no {R:List Ob}{f:Int}(h:jD7 R f=false)(j:Nat)(o:Ob)(hj:R[j]?=some o):o.ow≠f:=fun e=>by
 unfold jD7 at h
 rw[List.any_eq_false] at h
 exact h o (List.mem_iff_getElem?.2 ⟨j,hj⟩) (by simp[e])
theorem other_no {R:List Ob}{n:ByteArray}{i:Nat}(h:jJj R n i=false)(hn:n.size≠0)(j:Nat)(o:Ob)(hji:j≠i)(hj:R[j]?=some o):o.nm≠n:=fun e=>by
 unfold jJj at h
 simp only[ne_eq,hn,not_false_eq_true,decide_true,Bool.true_and] at h
 rw[List.any_eq_false] at h
 refine h j (List.mem_range.2 (jAy hj)) ?_
 rw[hj]
 simp[hji,e]
theorem good_ow {S:Ps}(h:Good S){i:Int}(h1:rowN S i){f:Int}(hf:-1<=f/\f<(S.fl:Int))(hh:f≠-1->∀(j:Nat) o,j≠i.toNat->S.R[j]?=some o->o.ow≠f)(hq:i.toNat∈S.Q->f=-1):Good (putP S i.toNat (owO (jC9 S i) f)) :=
 good_put h (jH7 h1) (h.st _ _ (jH7 h1)).1 hf.1 hf.2 hh (fun hn j o hj ho e=>hj (h.nu j i.toNat o _ ho (jH7 h1) e (by rw[e];exact hn))) hq
theorem good_asgS {S:Ps}(h:Good S)(i f:Int):Good (asgS S i f):=by
 unfold asgS asgE
 by_cases h1:rowN S i
 ·rw[if_pos h1]
  by_cases h2:jF7 S f
  ·rw[if_pos h2]
   by_cases h3:outL S i=true/\jD7 S.R f=false
   ·rw[if_pos h3,if_pos rfl]
    exact good_ow h h1 ⟨by unfold jF7 at h2;omega,h2.2⟩ (fun _ j o _ ho=>held_no h3.2 j o ho) (fun hq=>absurd hq (jHy.1 h3.1).2)
   ·rw[if_neg h3,if_neg (by decide)]
    exact h
  ·rw[if_neg h2,if_neg (by decide)]
   exact h
 ·rw[if_neg h1,if_neg (by decide)]
  exact h
theorem good_relS {S:Ps}(h:Good S)(i:Int):Good (relS S i):=by
 unfold relS relE
 by_cases h1:rowN S i
 ·rw[if_pos h1]
  by_cases h2:(jC9 S i).ow=-1
  ·rw[if_pos h2,if_neg (by decide)]
   exact h
  ·rw[if_neg h2,if_pos rfl]
   exact good_ow h h1 ⟨by omega,by omega⟩ (fun e=>absurd rfl e) (fun _=>rfl)
 ·rw[if_neg h1,if_neg (by decide)]
  exact h
theorem jK8 {f s:Nat}(hf:1<=f/\f<=65536)(hs:1<=s/\s<=64)(Q:List Nat)(hn:Q.Nodup)(hq:∀i,i∈Q->i<f+s):Good ⟨f,List.replicate (f+s) dOb,Q⟩:=by
 have hr:∀(i:Nat) o,(List.replicate (f+s) dOb)[i]?=some o->o=dOb:=fun i o ho=>by
  rw[Qc] at ho
  split at ho
  ·exact (QW ho).symm
  ·cases ho
 refine ⟨fun i o ho=>?_,fun i j o o' hi hj e e1=>?_,fun i j o o' hi hj e e1=>?_,hn,fun i hi=>?_,?_⟩
 ·rw[hr i o ho]
  exact ⟨⟨.inl rfl,.inl rfl,by decide,by decide⟩,by decide,by show (-1:Int)<(f:Int);omega⟩
 ·rw[hr i o hi] at e1
  exact absurd rfl e1
 ·rw[hr i o hi] at e1
  exact absurd rfl e1
 ·refine ⟨dOb,?_,rfl⟩
  show (List.replicate (f+s) dOb)[i]?=some dOb
  rw[Qc,if_pos (hq i hi)]
 ·show 1<=f/\f<(List.replicate (f+s) dOb).length/\(List.replicate (f+s) dOb).length<=65600
  rw[List.length_replicate]
  omega
theorem good_new {f s:Nat}(hf:1<=f/\f<=65536)(hs:1<=s/\s<=64):Good (newP f s):=jK8 hf hs _ List.nodup_range (fun _ hi=>List.mem_range.1 hi)
theorem len_put (S:Ps)(i:Nat)(o:Ob):(putP S i o).R.length=S.R.length:=by unfold putP;simp
end Go.Proofs.YtfnklhajafmooaaGreatDoor.Po
namespace Go.Proofs.YtfnklhajafmooaaGreatDoor.Po
open Go.RowKit Go.Lib Go.Deep Go.Proofs.Tryz
theorem jA0 {W W':World}{B e n size:Nat}{v:Value}{xs:List Value}(h:W.ownsRow B e size v n xs)(hk:∀g,v.ownBlock=some g->W'.heap[g]?=W.heap[g]?):W'.ownsRow B e size v n xs:=by
 obtain ⟨q0,q⟩:=h
 refine ⟨q0,?_⟩
 rcases q with q | ⟨g1,cap1,cur1,q1,q2,q3,q4⟩
 ·exact .inl q
 ·exact .inr ⟨g1,cap1,cur1,q1,q2,(hk g1 (by rw[q1];rfl)).trans q3,q4⟩
theorem jA7 {W W':World}{e n size:Nat}{v:Value}{xs:List Value}{B:Nat}(h:W.ownsRow B e size v n xs)(hb:Below W.heap.size W W'):W'.ownsRow B e size v n xs:=jA0 h fun g hg=>hb.block g (h.lt g hg).2
theorem jB1 {W:World}{e n size:Nat}{v:Value}{xs:List Value}{B B':Nat}(h:W.ownsRow B e size v n xs)(hB:B'<=B):W.ownsRow B' e size v n xs:=by
 obtain ⟨q0,q⟩:=h
 refine ⟨q0,?_⟩
 rcases q with q | ⟨g1,cap1,cur1,q1,q2,q3⟩
 ·exact .inl q
 ·exact .inr ⟨g1,cap1,cur1,q1,Qk hB q2,q3⟩
theorem jA1 {w:World}{B n size e k:Nat}{v:Value}{xs:List Value}(h:w.ownsRow B e size v n xs)(hv:v.ownBlock=some k):∃cur,w.heap[k]?=some (.cells cur e (0,0)):=by
 rcases h.2 with ⟨q1,_⟩ | ⟨g1,cap1,cur1,q1,q2,q3,q4⟩
 ·rw[q1] at hv;cases hv
 ·rw[q1] at hv
  simp[Value.ownBlock] at hv
  subst hv
  exact ⟨cur1,q3⟩
theorem jBy {w:World}{B ty sz n:Nat}{v:Value}{xs:List Value}(h:w.ownsRow B ty sz v n xs):∃a cap,v=.slice a n cap:=by
 rcases h.2 with ⟨h1,h2⟩ | ⟨g,cap,cur,h1,_⟩
 ·exact ⟨none,0,by rw[h2];exact h1⟩
 ·exact ⟨_,cap,h1⟩
theorem jHq {w:World}{B ty sz n:Nat}{v:Value}{xs:List Value}(h:w.ownsRow B ty sz v n xs)(hn:0<n):∃g cap,v=.slice (some ⟨g,0,none⟩) n cap:=by
 rcases h.2 with ⟨h1,h2⟩ | ⟨g,cap,cur,h1,_⟩
 ·omega
 ·exact ⟨g,cap,h1⟩
theorem jC6 {W W':World}{P:Program}{k:TypeId}{R:Value->Option (DataW Unit × List MemPlace)}{b n:Nat}{D:DataW Unit}(h:W.ownsMap P k R b n D)(hk:W'.heap[b]?=W.heap[b]?):W'.ownsMap P k R b n D:=by
 obtain ⟨es,clock,h1,h2⟩:=h
 exact ⟨es,clock,hk.trans h1,h2⟩
theorem jDq {W:World}{P:Program}{k:TypeId}{R:Value->Option (DataW Unit × List MemPlace)}{b n:Nat}{D:DataW Unit}(h:W.ownsMap P k R b n D):∃es clock,W.heap[b]?=some (.map es clock):=by
 obtain ⟨es,clock,h1,_⟩:=h
 exact ⟨es,clock,h1⟩
theorem jBv {S:List Nat}{a w w':World}(h:Only S a w)(hb:Below w.heap.size w w'):Only S a w':=h.trans ⟨hb.os,hb.tape,hb.output,hb.size,fun k hk _=>hb.block k hk⟩
theorem jB8 {S:List Nat}{a w w':World}{row:Option Nat}(h:Only S a w)(hg:w.grownBy w' row)(hr:∀k,row=some k->k∈S\/a.heap.size<=k):Only S a w' :=
 ⟨hg.os.trans h.os,hg.tape.trans h.tape,hg.output.trans h.output,Qk h.size hg.size,fun k hk hS=>(hg.block k (Qx hk h.size) (fun e=>by
   rcases hr k e.symm with h1 | h1
   ·exact hS h1
   ·omega)).trans (h.block k hk hS)⟩
theorem bdr {w W:World}{B:Nat}(h:Below B w W)(k:Nat):Below B w (W.drewN k):=⟨h.os,h.tape,h.output,h.size,h.block⟩
theorem jEv {α:Type}(f:α->List Value)(k:Nat)(hf:∀a,(f a).length=k):∀l:List α,(l.flatMap f).length=l.length*k
 | []=>by simp
 | a :: l=>by rw[List.flatMap_cons,List.length_append,hf,jEv f k hf l,List.length_cons,Nat.add_mul];omega
theorem jDz {α:Type}(f:α->List Value)(k:Nat)(hf:∀a,(f a).length=k):∀(l:List α) (i:Nat) (a:α),l[i]?=some a->∀j,j<k->(l.flatMap f)[i*k+j]?=(f a)[j]?
 | [],i,a,h,j,hj=>by cases h
 | b :: l,0,a,h,j,hj=>by
   simp only[List.getElem?_cons_zero,Option.some.injEq] at h
   subst h
   rw[Nat.zero_mul,Nat.zero_add,List.flatMap_cons,List.getElem?_append_left (by rw[hf];exact hj)]
 | b :: l,i+1,a,h,j,hj=>by
   rw[List.getElem?_cons_succ] at h
   rw[List.flatMap_cons,Qd (by rw[hf,Nat.add_mul];omega),hf,show (i+1)*k+j-k=i*k+j by rw[Nat.add_mul];omega]
   exact jDz f k hf l i a h j hj
theorem jE0 {α:Type}(f:α->List Value)(k:Nat)(hf:∀a,(f a).length=k):∀(l:List α) (i:Nat) (a b:α),l[i]?=some a->∀(j:Nat) (v:Value),j<k->f b=(f a).set j v->(l.flatMap f).set (i*k+j) v=(l.set i b).flatMap f
 | [],i,a,b,h,j,v,hj,e=>by cases h
 | c :: l,0,a,b,h,j,v,hj,e=>by
   simp only[List.getElem?_cons_zero,Option.some.injEq] at h
   subst h
   rw[Nat.zero_mul,Nat.zero_add,List.flatMap_cons,List.set_append_left _ _ (by rw[hf];exact hj),<-e,List.set_cons_zero,List.flatMap_cons]
 | c :: l,i+1,a,b,h,j,v,hj,e=>by
   rw[List.getElem?_cons_succ] at h
   rw[List.flatMap_cons,List.set_append_right _ _ (by rw[hf,Nat.add_mul];omega),hf,show (i+1)*k+j-k=i*k+j by rw[Nat.add_mul];omega,List.set_cons_succ,List.flatMap_cons,jE0 f k hf l i a b h j v hj e]
def obC (o:Ob):List Value:=[.string o.nm,.string o.tg,.int .i64 o.bk,.int .i64 o.ow]
def obV (o:Ob):Value:=.agg #[.string o.nm,.string o.tg,.int .i64 o.bk,.int .i64 o.ow]
def obsC (l:List Ob):List Value:=l.flatMap obC
def rwC (r:Ob × Bool):List Value:=[.string r.1.nm,.string r.1.tg,.int .i64 r.1.bk,.int .i64 r.1.ow,.bool r.2]
def rwsC (l:List (Ob × Bool)):List Value:=l.flatMap rwC
def jFz (S:Ps):List (Ob × Bool):=S.R.mapIdx fun i o=>(o,decide (i∈S.Q))
theorem rowsL_len (S:Ps):(jFz S).length=S.R.length:=by simp[jFz]
theorem jEj (S:Ps)(i:Nat):(jFz S)[i]?=(S.R[i]?).map fun o=>(o,decide (i∈S.Q)):=by simp[jFz]
theorem rowsL_put (S:Ps)(i:Nat)(o:Ob):jFz (putP S i o)=(jFz S).set i (o,decide (i∈S.Q)):=by
 apply List.ext_getElem?
 intro j
 rw[jEj,List.getElem?_set]
 show ((S.R.set i o)[j]?).map _=_
 rw[List.getElem?_set,rowsL_len]
 by_cases e:i=j
 ·subst e
  by_cases h:i<S.R.length
  ·rw[if_pos rfl,if_pos h,if_pos rfl,if_pos h];rfl
  ·rw[if_pos rfl,if_neg h,if_pos rfl,if_neg h];rfl
 ·rw[if_neg e,if_neg e,jEj];rfl
theorem rowsL_q (S:Ps)(Q:List Nat)(i:Nat)(b:Bool)(h:∀j,decide (j∈Q)=if j=i then b else decide (j∈S.Q)){o:Ob}(hi:S.R[i]?=some o):jFz ⟨S.fl,S.R,Q⟩=(jFz S).set i (o,b):=by
 apply List.ext_getElem?
 intro j
 rw[jEj,List.getElem?_set,rowsL_len]
 show (S.R[j]?).map (fun o=>(o,decide (j∈Q)))=_
 by_cases e:i=j
 ·subst e
  rw[if_pos rfl,if_pos (jAy hi),hi,h i,if_pos rfl];rfl
 ·rw[if_neg e,jEj,h j,if_neg (fun x=>e x.symm)]
noncomputable abbrev intR:Value->Option (DataW Unit × List MemPlace):=plainElem prog 3
def natD (n:Nat):DataW Unit:=.lit (.int .i64 (n:Int))
structure Tab {K:Type}(lit:K->Lit)(D:DataW Unit)(f:K->Option Nat):Prop where
 isMap:Maps.IsMap D
 has:∀k,Maps.has D (lit k)=(f k).isSome
 at_:∀k b,f k=some b->∀z,D.atKey (lit k) z=natD b
theorem tab_nil {K:Type}(lit:K->Lit):Tab lit (.map []) (fun _=>none):=⟨Maps.isMap_empty,fun _=>rfl,fun _ _ h=>by cases h⟩
theorem Tab.put {K:Type}[DecidableEq K]{lit:K->Lit}(inj:∀a b,lit a=lit b->a=b)(kl:∀a,WideAt.IsKeyLit (lit a)){D:DataW Unit}{f:K->Option Nat}(h:Tab lit D f)(n:K)(b:Nat):Tab lit (D.put (lit n) (natD b)) (fun k=>if k=n then some b else f k):=by
 refine ⟨h.isMap.put _ _,fun k=>?_,fun k x hx z=>?_⟩
 ·by_cases he:k=n
  ·subst he
   rw[Maps.has_put_same h.isMap (kl _)]
   simp
  ·rw[Maps.has_put_other (fun e=>he (inj _ _ e)),h.has k]
   simp[he]
 ·by_cases he:k=n
  ·subst he
   simp only[if_true,Option.some.injEq] at hx
   rw[Maps.atKey_put_same h.isMap (kl _),hx]
  ·rw[Maps.atKey_put_other (fun e=>he (inj _ _ e))]
   simp only[if_neg he] at hx
   exact h.at_ k x hx z
theorem Tab.del {K:Type}[DecidableEq K]{lit:K->Lit}(inj:∀a b,lit a=lit b->a=b){D:DataW Unit}{f:K->Option Nat}(h:Tab lit D f)(n:K):Tab lit (D.del (lit n)) (fun k=>if k=n then none else f k):=by
 refine ⟨h.isMap.del _,fun k=>?_,fun k x hx z=>?_⟩
 ·by_cases he:k=n
  ·subst he
   rw[Maps.has_del_same]
   simp
  ·rw[Maps.has_del_other (fun e=>he (inj _ _ e)),h.has k]
   simp[he]
 ·by_cases he:k=n
  ·subst he
   simp at hx
  ·rw[Maps.atKey_del_other (fun e=>he (inj _ _ e))]
   simp only[if_neg he] at hx
   exact h.at_ k x hx z
def litI (k:Int):Lit:=.int .i64 k
def litS (k:List UInt8):Lit:=.string k
theorem litI_inj (a b:Int)(h:litI a=litI b):a=b:=by unfold litI at h;injection h
theorem litS_inj (a b:List UInt8)(h:litS a=litS b):a=b:=by unfold litS at h;injection h
theorem litI_key (a:Int):WideAt.IsKeyLit (litI a):=by simp[litI,WideAt.IsKeyLit]
theorem litS_key (a:List UInt8):WideAt.IsKeyLit (litS a):=by simp[litS,WideAt.IsKeyLit]
theorem keyI:Maps.Keyed prog 3:=Maps.int_keyed underlying3
theorem keyS:Maps.Keyed prog 9:=Maps.string_keyed underlying9
theorem zeroInt (w:World):(zeroValue 3).run prog w=.ok (.int .i64 0) w:=by kernel_rfl
theorem wf_nat {n:Nat}(h:(n:Int)<=9223372036854775807):(Lit.int .i64 (n:Int)).wf=true:=by
 simp[Lit.wf,IntKind.min,IntKind.max,IntKind.signed,IntKind.bits]
 omega
def stA (S:Ps)(rv:Value)(oa na:Nat)(mv:Value)(h:Nat):Array Value:=#[.int .i64 (S.fl:Int),rv,.map (some oa),.map (some na),mv,.int .i64 (h:Int),.int .i64 (S.Q.length:Int)]
def nsC (l:List Nat):List Value:=l.map fun (n:Nat)=>Value.int .i64 (n:Int)
structure Inn (w:World)(q:Nat)(rv mv:Value)(oa na:Nat)(room:List Nat)(h nn:Nat)(S:Ps):Prop where
 hq:w.heap[q]?=some (.cells (stA S rv oa na mv h) 118 (0,0))
 hr:w.ownsRow 0 166 5 rv S.R.length (rwsC (jFz S))
 hm:w.ownsRow 0 3 1 mv room.length (nsC room)
 ho:∃D f,w.ownsMap prog 3 intR oa nn D/\Tab litI D f/\Is Ob.ow (-1) S.R f
 hn:∃D f,w.ownsMap prog 9 intR na nn D/\Tab litS D f/\Is kyN [] S.R f
 ne:oa≠na
 rg:Rng room h S.Q
 ml:room.length<=2*S.R.length+1
 lim:S.fl<=65536/\S.R.length<=65600
def fp (q:Nat)(rv mv:Value)(oa na:Nat):List Nat:=q :: oa :: na :: (rv.ownBlock.toList++mv.ownBlock.toList)
theorem jBx {k q:Nat}{rv mv:Value}{oa na:Nat}:k∈fp q rv mv oa na↔k=q\/k=oa\/k=na\/rv.ownBlock=some k\/mv.ownBlock=some k:=by
 unfold fp
 simp only[List.mem_cons,List.mem_append,Option.mem_toList]
def Lay (w:World)(q:Nat)(F:List Nat)(nn:Nat)(S:Ps):Prop:=∃rv mv oa na room h,F=fp q rv mv oa na/\Inn w q rv mv oa na room h nn S
def Turn (F:List Nat)(w w':World)(q nn:Nat)(S:Ps):Prop:=Only F w w'/\∃F',Lay w' q F' nn S/\∀k,k∈F'->k∈F\/w.heap.size<=k
theorem Inn.kinds {w:World}{q:Nat}{rv mv:Value}{oa na:Nat}{room:List Nat}{h nn:Nat}{S:Ps}(hI:Inn w q rv mv oa na room h nn S){k:Nat}(hk:k∈fp q rv mv oa na) :
 (∃es clock,w.heap[k]?=some (.map es clock))\/∃cur e,w.heap[k]?=some (.cells cur e (0,0))/\(e=118\/e=166\/e=3):=by
 rcases jBx.1 hk with rfl | rfl | rfl | hv | hv
 ·exact .inr ⟨_,_,hI.hq,.inl rfl⟩
 ·obtain ⟨D,f,h1,_⟩:=hI.ho
  exact .inl (jDq h1)
 ·obtain ⟨D,f,h1,_⟩:=hI.hn
  exact .inl (jDq h1)
 ·obtain ⟨cur,hc⟩:=jA1 hI.hr hv
  exact .inr ⟨_,_,hc,.inr (.inl rfl)⟩
 ·obtain ⟨cur,hc⟩:=jA1 hI.hm hv
  exact .inr ⟨_,_,hc,.inr (.inr rfl)⟩
theorem Inn.lt {w:World}{q:Nat}{rv mv:Value}{oa na:Nat}{room:List Nat}{h nn:Nat}{S:Ps}(hI:Inn w q rv mv oa na room h nn S){k:Nat}(hk:k∈fp q rv mv oa na):k<w.heap.size:=by
 rcases hI.kinds hk with ⟨es,cl,h1⟩ | ⟨c',e',h1,h2⟩
 ·exact (Array.getElem?_eq_some_iff.1 h1).1
 ·exact (Array.getElem?_eq_some_iff.1 h1).1
theorem Inn.notin {w:World}{q:Nat}{rv mv:Value}{oa na:Nat}{room:List Nat}{h nn:Nat}{S:Ps}(hI:Inn w q rv mv oa na room h nn S){k:Nat}{cur:Array Value}{e:TypeId}{fr:Nat × Nat}(hk:w.heap[k]?=some (.cells cur e fr))
 (he:¬(e=118\/e=166\/e=3)):k ∉ fp q rv mv oa na:=fun hm=>by
 rcases hI.kinds hm with ⟨es,cl,h1⟩ | ⟨c',e',h1,h2⟩
 ·rw[hk] at h1;cases h1
 ·rw[hk] at h1
  injection h1 with h1
  injection h1 with _ h1 _
  subst h1
  exact he h2
theorem Inn.keep {w W:World}{q:Nat}{rv mv:Value}{oa na:Nat}{room:List Nat}{h nn:Nat}{S:Ps}(hI:Inn w q rv mv oa na room h nn S)(h1:∀k,k∈fp q rv mv oa na->W.heap[k]?=w.heap[k]?):Inn W q rv mv oa na room h nn S:=by
 refine ⟨(h1 q (jBx.2 (.inl rfl))).trans hI.hq,jA0 hI.hr fun g hg=>h1 g (jBx.2 (.inr (.inr (.inr (.inl hg))))),jA0 hI.hm fun g hg=>h1 g (jBx.2 (.inr (.inr (.inr (.inr hg))))),?_,?_,hI.ne,hI.rg,hI.ml,hI.lim⟩
 ·obtain ⟨D,f,h2,h3⟩:=hI.ho
  exact ⟨D,f,jC6 h2 (h1 _ (jBx.2 (.inr (.inl rfl)))),h3⟩
 ·obtain ⟨D,f,h2,h3⟩:=hI.hn
  exact ⟨D,f,jC6 h2 (h1 _ (jBx.2 (.inr (.inr (.inl rfl))))),h3⟩
theorem Inn.below {w W:World}{q:Nat}{rv mv:Value}{oa na:Nat}{room:List Nat}{h nn:Nat}{S:Ps}(hI:Inn w q rv mv oa na room h nn S)(hb:Below w.heap.size w W):Inn W q rv mv oa na room h nn S:=hI.keep fun k hk=>hb.block k (hI.lt hk)
theorem Inn.cells {w:World}{q:Nat}{rv mv:Value}{oa na:Nat}{room:List Nat}{h nn:Nat}{S:Ps}(hI:Inn w q rv mv oa na room h nn S) :
 w.cell? ⟨q,0,none⟩=some (.int .i64 (S.fl:Int))/\w.cell? ⟨q,1,none⟩=some rv/\w.cell? ⟨q,2,none⟩=some (.map (some oa))/\w.cell? ⟨q,3,none⟩=some (.map (some na))/\w.cell? ⟨q,4,none⟩=some mv/\w.cell? ⟨q,5,none⟩=some (.int .i64 (h:Int))/\w.cell? ⟨q,6,none⟩=some (.int .i64 (S.Q.length:Int)) :=
 ⟨(jAj hI.hq).trans rfl,(jAj hI.hq).trans rfl,(jAj hI.hq).trans rfl,(jAj hI.hq).trans rfl,(jAj hI.hq).trans rfl,(jAj hI.hq).trans rfl,(jAj hI.hq).trans rfl⟩
theorem Inn.qr {w:World}{q:Nat}{rv mv:Value}{oa na:Nat}{room:List Nat}{h nn:Nat}{S:Ps}(hI:Inn w q rv mv oa na room h nn S){g:Nat}(hg:rv.ownBlock=some g):g≠q/\g≠oa/\g≠na/\mv.ownBlock≠some g:=by
 obtain ⟨cur,hc⟩:=jA1 hI.hr hg
 obtain ⟨D,f,h1,_⟩:=hI.ho
 obtain ⟨es,cl,h1⟩:=jDq h1
 obtain ⟨D',f',h2,_⟩:=hI.hn
 obtain ⟨es',cl',h2⟩:=jDq h2
 refine ⟨fun e=>?_,fun e=>?_,fun e=>?_,fun e=>?_⟩
 ·rw[e,hI.hq] at hc
  injection hc with hc
  injection hc with _ hc _
  cases hc
 ·rw[e,h1] at hc;cases hc
 ·rw[e,h2] at hc;cases hc
 ·obtain ⟨c2,h3⟩:=jA1 hI.hm e
  rw[hc] at h3
  injection h3 with h3
  injection h3 with _ h3 _
  cases h3
theorem Inn.qm {w:World}{q:Nat}{rv mv:Value}{oa na:Nat}{room:List Nat}{h nn:Nat}{S:Ps}(hI:Inn w q rv mv oa na room h nn S){g:Nat}(hg:mv.ownBlock=some g):g≠q/\g≠oa/\g≠na/\rv.ownBlock≠some g:=by
 obtain ⟨cur,hc⟩:=jA1 hI.hm hg
 obtain ⟨D,f,h1,_⟩:=hI.ho
 obtain ⟨es,cl,h1⟩:=jDq h1
 obtain ⟨D',f',h2,_⟩:=hI.hn
 obtain ⟨es',cl',h2⟩:=jDq h2
 refine ⟨fun e=>?_,fun e=>?_,fun e=>?_,fun e=>(hI.qr e).2.2.2 hg⟩
 ·rw[e,hI.hq] at hc
  injection hc with hc
  injection hc with _ hc _
  cases hc
 ·rw[e,h1] at hc;cases hc
 ·rw[e,h2] at hc;cases hc
theorem Inn.qo {w:World}{q:Nat}{rv mv:Value}{oa na:Nat}{room:List Nat}{h nn:Nat}{S:Ps}(hI:Inn w q rv mv oa na room h nn S):oa≠q/\na≠q/\oa≠na:=by
 obtain ⟨D,f,h1,_⟩:=hI.ho
 obtain ⟨es,cl,h1⟩:=jDq h1
 obtain ⟨D',f',h2,_⟩:=hI.hn
 obtain ⟨es',cl',h2⟩:=jDq h2
 refine ⟨fun e=>?_,fun e=>?_,hI.ne⟩
 ·rw[e,hI.hq] at h1;cases h1
 ·rw[e,hI.hq] at h2;cases h2
theorem Lay.below {w W:World}{q:Nat}{F:List Nat}{nn:Nat}{S:Ps}(h:Lay w q F nn S)(hb:Below w.heap.size w W):Lay W q F nn S:=by
 obtain ⟨rv,mv,oa,na,room,hd,hF,hI⟩:=h
 exact ⟨rv,mv,oa,na,room,hd,hF,hI.below hb⟩
theorem Lay.keep {w W:World}{q:Nat}{F:List Nat}{nn:Nat}{S:Ps}(h:Lay w q F nn S)(hk:∀k,k∈F->W.heap[k]?=w.heap[k]?):Lay W q F nn S:=by
 obtain ⟨rv,mv,oa,na,room,hd,rfl,hI⟩:=h
 exact ⟨rv,mv,oa,na,room,hd,rfl,hI.keep hk⟩
theorem Lay.lt {w:World}{q:Nat}{F:List Nat}{nn:Nat}{S:Ps}(h:Lay w q F nn S):∀k,k∈F->k<w.heap.size:=by
 obtain ⟨rv,mv,oa,na,room,hd,rfl,hI⟩:=h
 exact fun k hk=>hI.lt hk
theorem Lay.notin {w:World}{q:Nat}{F:List Nat}{nn:Nat}{S:Ps}(h:Lay w q F nn S){k:Nat}{cur:Array Value}{e:TypeId}{fr:Nat × Nat}(hk:w.heap[k]?=some (.cells cur e fr))
 (he:¬(e=118\/e=166\/e=3)):k ∉ F:=by
 obtain ⟨rv,mv,oa,na,room,hd,rfl,hI⟩:=h
 exact hI.notin hk he
theorem Lay.up {w:World}{q:Nat}{F:List Nat}{nn:Nat}{S:Ps}(h:Lay w q F nn S){N:Nat}(hN:nn<=N):Lay w q F N S:=by
 obtain ⟨rv,mv,oa,na,room,hd,hF,hI⟩:=h
 refine ⟨rv,mv,oa,na,room,hd,hF,hI.hq,hI.hr,hI.hm,?_,?_,hI.ne,hI.rg,hI.ml,hI.lim⟩
 ·obtain ⟨D,f,h2,h3⟩:=hI.ho
  exact ⟨D,f,h2.mono hN,h3⟩
 ·obtain ⟨D,f,h2,h3⟩:=hI.hn
  exact ⟨D,f,h2.mono hN,h3⟩
theorem Lay.turn {w W:World}{q:Nat}{F:List Nat}{nn:Nat}{S:Ps}(h:Lay w q F nn S)(hb:Below w.heap.size w W):Turn F w W q nn S:=⟨jBv (Only.refl _ _) hb,F,h.below hb,fun _ hk=>.inl hk⟩
theorem jC1 {F F':List Nat}{w w' w'':World}{q nn:Nat}{S:Ps}(ho:Only F w w')(hF:∀k,k∈F'->k∈F\/w.heap.size<=k)(h:Turn F' w' w'' q nn S):Turn F w w'' q nn S:=by
 obtain ⟨h1,F2,h2,h3⟩:=h
 refine ⟨⟨h1.os.trans ho.os,h1.tape.trans ho.tape,h1.output.trans ho.output,Qk ho.size h1.size,fun k hk hS=>(h1.block k (Qx hk ho.size) (fun e=>?_)).trans (ho.block k hk hS)⟩,F2,h2,fun k hk=>?_⟩
 ·rcases hF k e with h | h
  ·exact hS h
  ·omega
 ·rcases h3 k hk with h | h
  ·exact hF k h
  ·exact .inr (Qk ho.size h)
theorem Turn.ahead {F:List Nat}{w w' W:World}{q nn:Nat}{S:Ps}(hb:Below w.heap.size w w')(h:Turn F w' W q nn S):Turn F w W q nn S:=jC1 (jBv (Only.refl _ _) hb) (fun _ hk=>.inl hk) h
theorem Turn.up {F:List Nat}{w w':World}{q nn N:Nat}{S:Ps}(h:Turn F w w' q nn S)(hN:nn<=N):Turn F w w' q N S:=by
 obtain ⟨h1,F2,h2,h3⟩:=h
 exact ⟨h1,F2,h2.up hN,h3⟩
theorem jDy (w:World)(A B:Array Value)(s t:TypeId):∃W,(w.alloc (.cells A s)).alloc (.cells B t)=W/\Below w.heap.size w W/\W.heap[w.heap.size]?=some (.cells A s (0,0))/\W.heap[w.heap.size+1]?=some (.cells B t (0,0)):=by
 have hb1:Below w.heap.size w (w.alloc (.cells A s)):=(Qq _ _).alloc (Qj _) _
 refine ⟨_,rfl,hb1.alloc hb1.size _,(QK _ _ _ (by simp)).trans (jA2 w _),?_⟩
 have:=jA2 (w.alloc (.cells A s)) (.cells B t)
 rw[show (w.alloc (.cells A s)).heap.size=w.heap.size+1 by simp] at this
 exact this
theorem jA4 (w:World)(A:Array Value)(s:TypeId):∃W,w.alloc (.cells A s)=W/\Below w.heap.size w W/\W.heap[w.heap.size]?=some (.cells A s (0,0)):=⟨_,rfl,(Qq _ _).alloc (Qj _) _,jA2 w _⟩
theorem Turn.call {F:List Nat}{w W:World}{q nn N:Nat}{S S':Ps}{f:Nat}{args:Array Value}{r:Value}(h:Turn F w W q nn S)(hc:∀F',Lay W q F' nn S->Calls prog f args W fun e w'=>e=.returned r/\Turn F' W w' q N S'):Calls prog f args W fun e w'=>e=.returned r/\Turn F w w' q N S':=by
 obtain ⟨h1,F2,h2,h3⟩:=h
 refine (hc F2 h2).mono ?_
 rintro e w' ⟨hx,hT⟩
 exact ⟨hx,jC1 h1 h3 hT⟩
end Go.Proofs.YtfnklhajafmooaaGreatDoor.Po
namespace Go.Proofs.YtfnklhajafmooaaGreatDoor.Po
open Go.Shelf Go.Proofs.Tryz
def cloneRen:Go.Shelf.Ren:=⟨fun | 316=>140 | n=>n,fun | 9=>9 | 3=>3 | 4=>4 | 37=>253 | 0=>0 | 127=>254 | 5=>5 | n=>n,fun | n=>n⟩
theorem jN2:Go.Proofs.LaysM.n316 prog cloneRen:={
 mixed:=by kernel_rfl
 f316:=func140.trans (congrArg some (by kernel_rfl))
 t0:=underlying0
 a0:=isAgg0
 z0:=sizeOf0
 v0:=zeroValue0
 t3:=underlying3
 a3:=isAgg3
 z3:=sizeOf3
 v3:=zeroValue3
 t4:=underlying4
 a4:=isAgg4
 z4:=sizeOf4
 v4:=zeroValue4
 t9:=underlying9
 a9:=isAgg9
 z9:=sizeOf9
 v9:=zeroValue9
 t37:=underlying253
 a37:=isAgg253
 z37:=sizeOf253
 v37:=zeroValue253
 t127:=underlying254
 a127:=isAgg254
 z127:=sizeOf254
 v127:=zeroValue254
 t5:=underlying5
 a5:=isAgg5
 z5:=sizeOf5
 v5:=zeroValue5
 i0:=by kernel_rfl
 i3:=by kernel_rfl
 i4:=by kernel_rfl
 i5:=by kernel_rfl
 i9:=by kernel_rfl
 i37:=by kernel_rfl
 i127:=by kernel_rfl }
def ctiRen:Go.Shelf.Ren:=⟨fun | 107=>154 | 108=>196 | n=>n,fun | 28=>44 | 3=>3 | 4=>4 | 0=>0 | n=>n,fun | n=>n⟩
theorem ctiLays:Go.Proofs.Lays.n107 prog ctiRen:={
 mixed:=by kernel_rfl
 f107:=func154.trans (congrArg some (by kernel_rfl))
 f108:=func196.trans (congrArg some (by kernel_rfl))
 t0:=underlying0
 a0:=isAgg0
 z0:=sizeOf0
 v0:=zeroValue0
 t3:=underlying3
 a3:=isAgg3
 z3:=sizeOf3
 v3:=zeroValue3
 t4:=underlying4
 a4:=isAgg4
 z4:=sizeOf4
 v4:=zeroValue4
 t28:=underlying44
 a28:=isAgg44
 z28:=sizeOf44
 v28:=zeroValue44 }
def eqiRen:Go.Shelf.Ren:=⟨fun | 111=>71 | n=>n,fun | 28=>44 | 3=>3 | 4=>4 | 0=>0 | n=>n,fun | n=>n⟩
theorem eqiLays:Go.Proofs.Lays.n111 prog eqiRen:={
 mixed:=by kernel_rfl
 f111:=func71.trans (congrArg some (by kernel_rfl))
 t0:=underlying0
 a0:=isAgg0
 z0:=sizeOf0
 v0:=zeroValue0
 t3:=underlying3
 a3:=isAgg3
 z3:=sizeOf3
 v3:=zeroValue3
 t4:=underlying4
 a4:=isAgg4
 z4:=sizeOf4
 v4:=zeroValue4
 t28:=underlying44
 a28:=isAgg44
 z28:=sizeOf44
 v28:=zeroValue44 }
def soiRen:Go.Shelf.Ren:=⟨fun | 189=>107 | 125=>54 | 257=>152 | 128=>79 | 129=>80 | 294=>186 | 295=>187 | 296=>188 | 297=>189 | 298=>190 | 299=>191 | 216=>192 | 300=>193 | 301=>194 | 328=>209 | 329=>210 | 330=>211 | 331=>212 | 332=>213 | 215=>207 | 343=>229 | n=>n,fun | 28=>44 | 3=>3 | 46=>130 | 0=>0 | 51=>181 | 53=>183 | 4=>4 | 183=>266 | 182=>265 | 131=>213 | 5=>5 | 9=>9 | 218=>280 | 222=>284 | 228=>291 | 229=>292 | n=>n,fun | n=>n⟩
theorem soiLays:Go.Proofs.Lays.n189 prog soiRen:={
 mixed:=by kernel_rfl
 f125:=func54.trans (congrArg some (by kernel_rfl))
 f128:=func79.trans (congrArg some (by kernel_rfl))
 f129:=func80.trans (congrArg some (by kernel_rfl))
 f189:=func107.trans (congrArg some (by kernel_rfl))
 f215:=func207.trans (congrArg some (by kernel_rfl))
 f216:=func192.trans (congrArg some (by kernel_rfl))
 f257:=func152.trans (congrArg some (by kernel_rfl))
 f294:=func186.trans (congrArg some (by kernel_rfl))
 f295:=func187.trans (congrArg some (by kernel_rfl))
 f296:=func188.trans (congrArg some (by kernel_rfl))
 f297:=func189.trans (congrArg some (by kernel_rfl))
 f298:=func190.trans (congrArg some (by kernel_rfl))
 f299:=func191.trans (congrArg some (by kernel_rfl))
 f300:=func193.trans (congrArg some (by kernel_rfl))
 f301:=func194.trans (congrArg some (by kernel_rfl))
 f328:=func209.trans (congrArg some (by kernel_rfl))
 f329:=func210.trans (congrArg some (by kernel_rfl))
 f330:=func211.trans (congrArg some (by kernel_rfl))
 f331:=func212.trans (congrArg some (by kernel_rfl))
 f332:=func213.trans (congrArg some (by kernel_rfl))
 f343:=func229.trans (congrArg some (by kernel_rfl))
 t0:=underlying0
 a0:=isAgg0
 z0:=sizeOf0
 v0:=zeroValue0
 t3:=underlying3
 a3:=isAgg3
 z3:=sizeOf3
 v3:=zeroValue3
 t4:=underlying4
 a4:=isAgg4
 z4:=sizeOf4
 v4:=zeroValue4
 t5:=underlying5
 a5:=isAgg5
 z5:=sizeOf5
 v5:=zeroValue5
 t9:=underlying9
 a9:=isAgg9
 z9:=sizeOf9
 v9:=zeroValue9
 t28:=underlying44
 a28:=isAgg44
 z28:=sizeOf44
 v28:=zeroValue44
 t46:=underlying130
 a46:=isAgg130
 z46:=sizeOf130
 v46:=zeroValue130
 t51:=underlying181
 a51:=isAgg181
 z51:=sizeOf181
 v51:=zeroValue181
 t53:=underlying183
 a53:=isAgg183
 z53:=sizeOf183
 v53:=zeroValue183
 t131:=underlying213
 a131:=isAgg213
 z131:=sizeOf213
 v131:=zeroValue213
 t182:=underlying265
 a182:=isAgg265
 z182:=sizeOf265
 v182:=zeroValue265
 t183:=underlying266
 a183:=isAgg266
 z183:=sizeOf266
 v183:=zeroValue266
 t218:=underlying280
 a218:=isAgg280
 z218:=sizeOf280
 v218:=zeroValue280
 t222:=underlying284
 a222:=isAgg284
 z222:=sizeOf284
 v222:=zeroValue284
 t228:=underlying291
 a228:=isAgg291
 z228:=sizeOf291
 v228:=zeroValue291
 t229:=underlying292
 a229:=isAgg292
 z229:=sizeOf292
 v229:=zeroValue292 }
