import Derived.Test.YtfnklhajafmooaaGreatDoorG02
namespace Go.Proofs.YtfnklhajafmooaaGreatDoor.Tr
open Go.RowKit Go.Lib
abbrev Key:=List UInt8
def ky (n:ByteArray):Key:=n.data.toList
theorem ky_inj {a b:ByteArray}(h:ky a=ky b):a=b:=ByteArray.ext (Array.toList_inj.1 h)
abbrev e0:ByteArray:={ data:=#[] }
structure Ts where
 fr:Nat
 dr:Nat
 most:Nat
 D:List (Option (Nat × ByteArray))
 F:List (Option (Nat × ByteArray × Nat))
 M:Nat->Key->Option (Nat × Nat)
def putM (M:Nat->Key->Option (Nat × Nat))(p:Nat)(k:Key)(v:Option (Nat × Nat)):Nat->Key->Option (Nat × Nat):=fun q l=>if q=p/\l=k then v else M q l
def layL {α:Type}(l:List (Option α))(x:Nat)(v:Option α):List (Option α):=if x<l.length then l.set x v else l++[v]
def lowL {α:Type}(l:List (Option α)):Nat:=l.findIdx fun o=>o.isNone
structure Sp where
 par:Nat
 nm:ByteArray
 kd:Nat
 no:Nat
def Sp.zero:Sp:=⟨0,e0,0,0⟩
def Sp.root:Sp:=⟨0,e0,1,0⟩
def nxt (T:Ts)(a:Sp)(n:ByteArray):Sp:=⟨a.no,n,((T.M a.no (ky n)).getD (0,0)).1,((T.M a.no (ky n)).getD (0,0)).2⟩
def fnd (T:Ts):Sp->List ByteArray->Sp × Int
 | a,[]=>(a,0)
 | a,n :: L=>if a.kd=0 then (Sp.zero,120) else if a.kd=2 then (Sp.zero,122) else fnd T (nxt T a n) L
def fndA (T:Ts)(L:List ByteArray):Sp × Int:=fnd T Sp.root L
def fndS (T:Ts)(L:List ByteArray):Sp × Int:=if (fndA T L).2=0/\(fndA T L).1.kd=0 then (Sp.zero,120) else fndA T L
def fndF (T:Ts)(L:List ByteArray):Sp × Int:=if (fndS T L).2=0/\(fndS T L).1.kd=1 then (Sp.zero,123) else fndS T L
def fndD (T:Ts)(L:List ByteArray):Sp × Int:=if (fndS T L).2=0/\(fndS T L).1.kd=2 then (Sp.zero,122) else fndS T L
def fndN (T:Ts)(L:List ByteArray):Sp × Int:=if (fndA T L).2=0/\(fndA T L).1.kd≠0 then (Sp.zero,121) else fndA T L
structure Rs where
 code:Int
 n:Int
 names:List ByteArray
 kind:Int
 size:Int
structure Ef where
 kind:Int
 file:Int
 gone:Int
 at_:Int
 n:Int
 data:ByteArray
 size:Int
structure Op where
 kind:Int
 path:ByteArray
 to_:ByteArray
 at_:Int
 n:Int
 data:ByteArray
def Rs.no (e:Int):Rs:=⟨e,0,[],0,0⟩
def Ef.no:Ef:=⟨0,-1,-1,0,0,e0,0⟩
abbrev Ans:=Rs × Ef × Ts
def ref (T:Ts)(e:Int):Ans:=(Rs.no e,Ef.no,T)
def szF (T:Ts)(x:Nat):Nat:=match T.F[x]? with
 | some (some r)=>r.2.2
 | _=>0
def plF (T:Ts)(x:Nat):Nat × ByteArray:=match T.F[x]? with
 | some (some r)=>(r.1,r.2.1)
 | _=>(0,e0)
def jA6 (T:Ts)(p:Nat)(n:ByteArray)(v:Option (Nat × Nat)):Ts:={ T with M:=putM T.M p (ky n) v }
def setD (T:Ts)(x:Nat)(v:Option (Nat × ByteArray)):Ts:={ T with D:=layL T.D x v }
def setF (T:Ts)(x:Nat)(v:Option (Nat × ByteArray × Nat)):Ts:={ T with F:=layL T.F x v }
def jD2 (T:Ts)(x s:Nat):Ts:=setF T x (some ((plF T x).1,(plF T x).2,s))
def mkdT (T:Ts)(L:List ByteArray):Ans :=
 if (fndN T L).2≠0 then ref T (fndN T L).2
 else if lowL T.D<T.dr then (Rs.no 0,Ef.no,jA6 (setD T (lowL T.D) (some ((fndN T L).1.par,(fndN T L).1.nm))) (fndN T L).1.par (fndN T L).1.nm (some (1,lowL T.D)))
 else ref T 125
def creT (T:Ts)(L:List ByteArray):Ans :=
 if (fndN T L).2≠0 then ref T (fndN T L).2
 else if lowL T.F<T.fr then (Rs.no 0,⟨1,lowL T.F,-1,0,0,e0,0⟩,jA6 (setF T (lowL T.F) (some ((fndN T L).1.par,(fndN T L).1.nm,0))) (fndN T L).1.par (fndN T L).1.nm (some (2,lowL T.F)))
 else ref T 125
def reaN (T:Ts)(L:List ByteArray)(o:Op):Int:=min o.n (max ((szF T (fndF T L).1.no:Int)-o.at_) 0)
def reaT (T:Ts)(L:List ByteArray)(o:Op):Ans :=
 if (fndF T L).2≠0 then ref T (fndF T L).2
 else (⟨0,reaN T L o,[],0,0⟩,⟨2,(fndF T L).1.no,-1,o.at_,reaN T L o,e0,szF T (fndF T L).1.no⟩,T)
def wriS (T:Ts)(x:Nat)(o:Op):Nat:=if o.data.size=0 then szF T x else max (szF T x) (o.at_.toNat+o.data.size)
def wriT (T:Ts)(L:List ByteArray)(o:Op):Ans :=
 if (fndF T L).2≠0 then ref T (fndF T L).2
 else if (T.most:Int)-o.at_<o.data.size then ref T 3
 else (⟨0,o.data.size,[],0,0⟩,⟨3,(fndF T L).1.no,-1,o.at_,0,o.data,wriS T (fndF T L).1.no o⟩,if o.data.size=0 then T else jD2 T (fndF T L).1.no (wriS T (fndF T L).1.no o))
def cutT (T:Ts)(L:List ByteArray)(o:Op):Ans :=
 if (fndF T L).2≠0 then ref T (fndF T L).2
 else if (T.most:Int)<o.n then ref T 3
 else (Rs.no 0,⟨4,(fndF T L).1.no,-1,0,o.n,e0,o.n⟩,jD2 T (fndF T L).1.no o.n.toNat)
def remT (T:Ts)(L:List ByteArray):Ans :=
 if (fndF T L).2≠0 then ref T (fndF T L).2
 else (Rs.no 0,⟨5,(fndF T L).1.no,-1,0,0,e0,0⟩,setF (jA6 T (fndF T L).1.par (fndF T L).1.nm none) (fndF T L).1.no none)
open Classical in
noncomputable def rmdT (T:Ts)(L:List ByteArray):Ans :=
 if L=[] then ref T 1
 else if (fndD T L).2≠0 then ref T (fndD T L).2
 else if ∃k,(T.M (fndD T L).1.no k).isSome=true then ref T 124
 else (Rs.no 0,Ef.no,setD (jA6 T (fndD T L).1.par (fndD T L).1.nm none) (fndD T L).1.no none)
def leB (a b:Key):Bool:=decide (a<=b)
def Rises (ks:List Key)(f:Key->Option (Nat × Nat)):Prop:=ks.Pairwise (fun a b=>leB a b=true)/\ks.Nodup/\∀k,k∈ks↔(f k).isSome=true
theorem rises_eq {ks ls:List Key}{f:Key->Option (Nat × Nat)}(h:Rises ks f)(h':Rises ls f):ks=ls:=by
 have hp:ks.Perm ls:=(List.perm_ext_iff_of_nodup h.2.1 h'.2.1).2 fun x=>(h.2.2 x).trans (h'.2.2 x).symm
 refine List.Perm.eq_of_pairwise (le:=fun a b=>leB a b=true) (fun a b _ _ h1 h2=>?_) h.1 h'.1 hp
 simp only[leB,decide_eq_true_eq] at h1 h2
 exact List.le_antisymm h1 h2
open Classical in
noncomputable def keysL (f:Key->Option (Nat × Nat)):List Key:=if h:∃ks,Rises ks f then h.choose else []
theorem keysL_eq {ks:List Key}{f:Key->Option (Nat × Nat)}(h:Rises ks f):keysL f=ks:=by
 have he:∃ks,Rises ks f:=⟨ks,h⟩
 unfold keysL
 rw[dif_pos he]
 exact rises_eq he.choose_spec h
theorem rises_sort {ss:List Key}{f:Key->Option (Nat × Nat)}(hn:ss.Nodup)(hm:∀k,k∈ss↔(f k).isSome=true):Rises (ss.mergeSort fun x y=>decide (x<=y)) f:=by
 have tr:∀a b c:Key,leB a b=true->leB b c=true->leB a c=true:=fun a b c h1 h2=>by simp only[leB,decide_eq_true_eq] at *;exact List.le_trans h1 h2
 have to:∀a b:Key,(leB a b || leB b a)=true:=fun a b=>by simp only[leB,Bool.or_eq_true,decide_eq_true_eq];exact List.le_total a b
 refine ⟨List.pairwise_mergeSort tr to ss,(List.mergeSort_perm ss _).nodup_iff.2 hn,fun k=>?_⟩
 rw[(List.mergeSort_perm ss _).mem_iff,hm]
noncomputable def lisT (T:Ts)(L:List ByteArray):Ans :=
 if (fndD T L).2≠0 then ref T (fndD T L).2
 else (⟨0,0,(keysL (T.M (fndD T L).1.no)).map str,0,0⟩,Ef.no,T)
def staT (T:Ts)(L:List ByteArray):Ans :=
 if (fndS T L).2≠0 then ref T (fndS T L).2
 else if (fndS T L).1.kd=1 then (⟨0,0,[],1,0⟩,Ef.no,T)
 else (⟨0,0,[],2,szF T (fndS T L).1.no⟩,Ef.no,T)
inductive Rch (T:Ts):Nat->Nat->Prop
 | one {p:Nat} {k:Key} {v:Nat × Nat}:T.M p k=some v->Rch T p 1
 | more {p:Nat} {k:Key} {x j:Nat}:T.M p k=some (1,x)->Rch T x j->Rch T p (j+1)
open Classical in
noncomputable def tarE (T:Ts)(P Q:List ByteArray)(a:Sp):Int :=
 if a.kd=1/\P <+: Q then 126
 else if (fndA T Q).2≠0 then (fndA T Q).2
 else if (fndA T Q).1.kd=1 then 121
 else if (fndA T Q).1.kd=2/\a.kd=1 then 122
 else if a.kd=1/\∃j,Rch T a.no j/\16<Q.length+j then 112
 else 0
def movT (T:Ts)(a b:Sp):Ts :=
 if a.kd=1 then setD (jA6 (jA6 T a.par a.nm none) b.par b.nm (some (a.kd,a.no))) a.no (some (b.par,b.nm))
 else setF (jA6 (jA6 T a.par a.nm none) b.par b.nm (some (a.kd,a.no))) a.no (some (b.par,b.nm,szF T a.no))
noncomputable def renT (T:Ts)(P Q:List ByteArray):Ans :=
 if (fndS T P).2≠0 then ref T (fndS T P).2
 else if P=Q then (Rs.no 0,Ef.no,T)
 else if tarE T P Q (fndS T P).1≠0 then ref T (tarE T P Q (fndS T P).1)
 else if (fndA T Q).1.kd=0 then (Rs.no 0,Ef.no,movT T (fndS T P).1 (fndA T Q).1)
 else (Rs.no 0,⟨6,(fndS T P).1.no,(fndA T Q).1.no,0,0,e0,szF T (fndS T P).1.no⟩,setF (movT T (fndS T P).1 (fndA T Q).1) (fndA T Q).1.no none)
def askE (o:Op):Int :=
 if o.kind<1\/10<o.kind then 127
 else if Pa.jA9 o.path≠0 then Pa.jA9 o.path
 else if o.kind=6/\Pa.jA9 o.to_≠0 then Pa.jA9 o.to_
 else if ((o.kind=3\/o.kind=4)/\o.at_<0)\/((o.kind=3\/o.kind=5)/\o.n<0) then 1
 else 0
noncomputable def doT (T:Ts)(o:Op):Ans :=
 if askE o≠0 then ref T (askE o)
 else if o.kind=1 then mkdT T (Pa.jB3 o.path)
 else if o.kind=2 then creT T (Pa.jB3 o.path)
 else if o.kind=3 then reaT T (Pa.jB3 o.path) o
 else if o.kind=4 then wriT T (Pa.jB3 o.path) o
 else if o.kind=5 then cutT T (Pa.jB3 o.path) o
 else if o.kind=6 then renT T (Pa.jB3 o.path) (Pa.jB3 o.to_)
 else if o.kind=7 then remT T (Pa.jB3 o.path)
 else if o.kind=8 then rmdT T (Pa.jB3 o.path)
 else if o.kind=9 then lisT T (Pa.jB3 o.path)
 else staT T (Pa.jB3 o.path)
structure Nd where
 kind:Nat
 number:Nat
 parent:Nat
 name:ByteArray
 size:Nat
def toldD (D:List (Option (Nat × ByteArray))):List Nd:=(D.zipIdx.drop 1).filterMap fun r=>r.1.map fun d=>⟨1,r.2,d.1,d.2,0⟩
def toldF (F:List (Option (Nat × ByteArray × Nat))):List Nd:=F.zipIdx.filterMap fun r=>r.1.map fun f=>⟨2,r.2,f.1,f.2.1,f.2.2⟩
def told (T:Ts):List Nd:=toldD T.D++toldF T.F
end Go.Proofs.YtfnklhajafmooaaGreatDoor.Tr
namespace Go.Proofs.YtfnklhajafmooaaGreatDoor.Tr
open Go.RowKit Go.Lib
theorem jKq {α:Type}{l:List (Option α)}{x:Nat}(v:Option α)(h:x<=l.length)(y:Nat):(layL l x v)[y]?=if y=x then some v else l[y]?:=by
 unfold layL
 by_cases hx:x<l.length
 ·rw[if_pos hx,List.getElem?_set]
  by_cases hy:x=y
  ·subst hy;rw[if_pos rfl,if_pos rfl,if_pos hx]
  ·rw[if_neg hy,if_neg (fun e=>hy e.symm)]
 ·rw[if_neg hx]
  obtain rfl:x=l.length:=by omega
  by_cases hy:y=l.length
  ·subst hy;simp
  ·rw[if_neg hy,List.getElem?_append]
   by_cases h2:y<l.length
   ·rw[if_pos h2]
   ·rw[if_neg h2,List.getElem?_eq_none (by simp;omega),List.getElem?_eq_none (by omega)]
theorem jE8 {α:Type}{l:List (Option α)}{x:Nat}(v:Option α):(layL l x v).length=if x<l.length then l.length else l.length+1:=by
 unfold layL
 by_cases hx:x<l.length
 ·rw[if_pos hx,if_pos hx];simp
 ·rw[if_neg hx,if_neg hx];simp
theorem jE5 {α:Type}(l:List (Option α)):lowL l<=l.length:=List.findIdx_le_length
theorem jHv {α:Type}(l:List (Option α))(a:α):l[lowL l]?≠some (some a):=fun h=>by
 have hlt:=(QV.1 h).1
 have:=List.findIdx_getElem (p:=fun o:Option α=>o.isNone) (xs:=l) (w:=hlt)
 rw[Qv hlt] at h
 simp only[Option.some.injEq] at h
 unfold lowL at h
 rw[h] at this
 cases this
theorem jF9 {α:Type}(l:List (Option α)){i:Nat}(h:i<lowL l):∃a,l[i]?=some (some a):=by
 have hlt:i<l.length:=Qx h (jE5 l)
 have:=List.not_of_lt_findIdx h
 rw[Qv hlt]
 cases hq:l[i] with
 | none=>rw[hq] at this;simp at this
 | some a=>exact ⟨a,rfl⟩
theorem jC7 (M:Nat->Key->Option (Nat × Nat))(p:Nat)(k:Key)(v:Option (Nat × Nat)):putM M p k v p k=v:=by simp[putM]
theorem jCj {M:Nat->Key->Option (Nat × Nat)}{p:Nat}{k:Key}{v:Option (Nat × Nat)}{q:Nat}{l:Key}(h:¬(q=p/\l=k)):putM M p k v q l=M q l:=by simp only[putM,if_neg h]
def lies (T:Ts)(p:Nat)(k:Key)(v:Nat × Nat):Prop :=
 (v.1=1/\v.2≠0/\∃n,T.D[v.2]?=some (some (p,n))/\ky n=k)\/(v.1=2/\∃n s,T.F[v.2]?=some (some (p,n,s))/\ky n=k)
def tk (T:Ts)(p:Nat):Prop:=∃d,T.D[p]?=some (some d)
structure Inv (T:Ts)(dp:Nat->Nat):Prop where
 root:T.D[0]?=some (some (0,e0))
 dl:T.D.length<=T.dr
 fl:T.F.length<=T.fr
 hM:∀p k v,T.M p k=some v↔lies T p k v
 hP:∀p k v,T.M p k=some v->tk T p
 hN:∀p k v,T.M p k=some v->Pa.isN k=true
 hS:∀(x p:Nat) (n:ByteArray) (s:Nat),T.F[x]?=some (some (p,n,s))->s<=T.most
 d0:dp 0=0
 d1:∀p k v,T.M p k=some v->dp p+1<=16/\(v.1=1->dp v.2=dp p+1)
theorem Inv.kinds {T:Ts}{dp:Nat->Nat}(h:Inv T dp){p:Nat}{k:Key}{v:Nat × Nat}(hv:T.M p k=some v):v.1=1\/v.1=2:=by
 rcases (h.hM _ _ _).1 hv with h | h
 ·exact .inl h.1
 ·exact .inr h.1
theorem Inv.dirD {T:Ts}{dp:Nat->Nat}(h:Inv T dp){p:Nat}{k:Key}{x:Nat}(hv:T.M p k=some (1,x)):x≠0/\∃n,T.D[x]?=some (some (p,n))/\ky n=k:=by
 rcases (h.hM _ _ _).1 hv with h | h
 ·exact h.2
 ·exact absurd h.1 (by simp)
theorem Inv.fileF {T:Ts}{dp:Nat->Nat}(h:Inv T dp){p:Nat}{k:Key}{x:Nat}(hv:T.M p k=some (2,x)):∃n s,T.F[x]?=some (some (p,n,s))/\ky n=k:=by
 rcases (h.hM _ _ _).1 hv with h | h
 ·exact absurd h.1 (by simp)
 ·exact h.2
theorem Inv.empty {T:Ts}{dp:Nat->Nat}(h:Inv T dp){x:Nat}(hx:∀d,T.D[x]?≠some (some d)):T.M x=fun _=>none:=by
 funext k
 cases hq:T.M x k with
 | none=>rfl
 | some v =>
   obtain ⟨d,hd⟩:=h.hP _ _ _ hq
   exact absurd hd (hx d)
structure Spot (T:Ts)(dp:Nat->Nat)(b:Sp)(m:Nat):Prop where
 ht:tk T b.par
 hd:dp b.par+1=m
 hn:Pa.nm b.nm=true
 hv:(b.kd=0/\b.no=0/\T.M b.par (ky b.nm)=none)\/T.M b.par (ky b.nm)=some (b.kd,b.no)
inductive Lds (T:Ts):List ByteArray->Nat->Prop
 | nil:Lds T [] 0
 | snoc {L:List ByteArray} {p:Nat} {n:ByteArray} {y:Nat}:Lds T L p->T.M p (ky n)=some (1,y)->Lds T (L++[n]) y
theorem Lds.eq {T:Ts}{dp:Nat->Nat}(h:Inv T dp){L L':List ByteArray}{x:Nat}(h1:Lds T L x)(h2:Lds T L' x):L=L':=by
 induction h1 generalizing L' with
 | nil =>
   cases h2 with
   | nil=>rfl
   | snoc _ h4=>exact absurd rfl (h.dirD h4).1
 | snoc h3 h4 ih =>
   obtain ⟨h5,n,h6,h7⟩:=h.dirD h4
   cases h2 with
   | nil=>exact absurd rfl h5
   | snoc h8 h9 =>
     obtain ⟨_,n',h6',h7'⟩:=h.dirD h9
     rw[h6] at h6'
     injection h6' with h6'
     injection h6' with h6'
     injection h6' with e1 e2
     subst e1 e2
     rw[ih h8,ky_inj (h7.symm.trans h7')]
theorem fnd_cons {T:Ts}{a:Sp}{n:ByteArray}{L:List ByteArray}(h:(fnd T a (n :: L)).2=0):(a.kd≠0/\a.kd≠2)/\fnd T a (n :: L)=fnd T (nxt T a n) L:=by
 have e:fnd T a (n :: L)=if a.kd=0 then (Sp.zero,120) else if a.kd=2 then (Sp.zero,122) else fnd T (nxt T a n) L:=rfl
 rw[e] at h ⊢
 by_cases h1:a.kd=0
 ·rw[if_pos h1] at h;cases h
 ·by_cases h2:a.kd=2
  ·rw[if_neg h1,if_pos h2] at h;cases h
  ·rw[if_neg h1,if_neg h2]
   exact ⟨⟨h1,h2⟩,rfl⟩
theorem nxt_look {T:Ts}{dp:Nat->Nat}(_h:Inv T dp)(a:Sp)(n:ByteArray):((nxt T a n).kd=0/\(nxt T a n).no=0/\T.M a.no (ky n)=none)\/T.M a.no (ky n)=some ((nxt T a n).kd,(nxt T a n).no):=by
 unfold nxt
 cases hq:T.M a.no (ky n) with
 | none=>exact .inl ⟨rfl,rfl,rfl⟩
 | some v=>exact .inr rfl
theorem nxt_kd {T:Ts}{dp:Nat->Nat}(h:Inv T dp)(a:Sp)(n:ByteArray):(nxt T a n).kd=0\/(nxt T a n).kd=2\/((nxt T a n).kd=1/\T.M a.no (ky n)=some (1,(nxt T a n).no)):=by
 rcases nxt_look h a n with h1 | h1
 ·exact .inl h1.1
 ·rcases h.kinds h1 with h2 | h2
  ·refine .inr (.inr ⟨h2,?_⟩)
   rw[h1]
   exact congrArg (fun z=>some (z,(nxt T a n).no)) h2
  ·exact .inr (.inl h2)
theorem fnd_spot {T:Ts}{dp:Nat->Nat}(h:Inv T dp):∀(L:List ByteArray) (a:Sp) (m:Nat) (K:List ByteArray),(a.kd=0\/a.kd=2\/(a.kd=1/\tk T a.no/\dp a.no=m/\Lds T K a.no))->L.all Pa.nm=true->(fnd T a L).2=0 ->
 (L≠[]->Spot T dp (fnd T a L).1 (m+L.length)/\Lds T (K++L.dropLast) (fnd T a L).1.par/\L.getLast?=some (fnd T a L).1.nm)/\((fnd T a L).1.kd=1->tk T (fnd T a L).1.no/\Lds T (K++L) (fnd T a L).1.no/\dp (fnd T a L).1.no=m+L.length)
 | [],a,m,K,ha,_,_=>by
   refine ⟨fun h=>absurd rfl h,fun h1=>?_⟩
   have h1:a.kd=1:=h1
   rcases ha with ha | ha | ha
   ·omega
   ·omega
   ·exact ⟨ha.2.1,by rw[List.append_nil];exact ha.2.2.2,ha.2.2.1⟩
 | n :: L,a,m,K,ha,hnm,he=>by
   obtain ⟨⟨k1,k2⟩,ef⟩:=fnd_cons he
   rw[ef] at he ⊢
   simp only[List.all_cons,Bool.and_eq_true] at hnm
   rcases ha with ha | ha | ⟨ha,ht,hd,hL⟩
   ·exact absurd ha k1
   ·exact absurd ha k2
   have hk:=nxt_kd h a n
   have step:(nxt T a n).kd=0\/(nxt T a n).kd=2\/((nxt T a n).kd=1/\tk T (nxt T a n).no/\dp (nxt T a n).no=m+1/\Lds T (K++[n]) (nxt T a n).no):=by
    rcases hk with hk | hk | ⟨hk,hm⟩
    ·exact .inl hk
    ·exact .inr (.inl hk)
    ·obtain ⟨h3,n',h4,h5⟩:=h.dirD hm
     exact .inr (.inr ⟨hk,⟨_,h4⟩,by rw[(h.d1 _ _ _ hm).2 rfl,hd],.snoc hL hm⟩)
   have ih:=fnd_spot h L (nxt T a n) (m+1) (K++[n]) step hnm.2 he
   refine ⟨fun _=>?_,fun h1=>?_⟩
   ·by_cases hL0:L=[]
    ·subst hL0
     refine ⟨⟨ht,?_,hnm.1,nxt_look h a n⟩,?_,rfl⟩
     ·show dp a.no+1=m+1
      rw[hd]
     ·show Lds T (K++[]) a.no
      rw[List.append_nil]
      exact hL
    ·obtain ⟨i1,i2,i3⟩:=ih.1 hL0
     refine ⟨?_,?_,?_⟩
     ·rw[List.length_cons,show m+(L.length+1)=m+1+L.length by omega];exact i1
     ·rw[List.dropLast_cons_of_ne_nil hL0,show K++n :: L.dropLast=K++[n]++L.dropLast by simp];exact i2
     ·rw[List.getLast?_cons_of_ne_nil hL0];exact i3
   ·obtain ⟨i1,i2,i3⟩:=ih.2 h1
    refine ⟨i1,?_,?_⟩
    ·rw[show K++n :: L=K++[n]++L by simp];exact i2
    ·rw[List.length_cons,show m+(L.length+1)=m+1+L.length by omega];exact i3
theorem Inv.rootSp {T:Ts}{dp:Nat->Nat}(h:Inv T dp):Sp.root.kd=0\/Sp.root.kd=2\/(Sp.root.kd=1/\tk T Sp.root.no/\dp Sp.root.no=0/\Lds T [] Sp.root.no):=.inr (.inr ⟨rfl,⟨_,h.root⟩,h.d0,.nil⟩)
theorem jN3 {T:Ts}{dp:Nat->Nat}(h:Inv T dp){L:List ByteArray}(hL:L.all Pa.nm=true)(he:(fndA T L).2=0) :
 (L≠[]->Spot T dp (fndA T L).1 L.length/\Lds T L.dropLast (fndA T L).1.par/\L.getLast?=some (fndA T L).1.nm)/\((fndA T L).1.kd=1->tk T (fndA T L).1.no/\Lds T L (fndA T L).1.no/\dp (fndA T L).1.no=L.length):=by
 have:=fnd_spot h L Sp.root 0 [] h.rootSp hL he
 rw[Nat.zero_add,List.nil_append,List.nil_append] at this
 exact this
theorem Spot.kd {T:Ts}{dp:Nat->Nat}(h:Inv T dp){b:Sp}{m:Nat}(hs:Spot T dp b m):b.kd=0\/b.kd=1\/b.kd=2:=by
 rcases hs.hv with h1 | h1
 ·exact .inl h1.1
 ·rcases h.kinds h1 with h2 | h2
  ·exact .inr (.inl h2)
  ·exact .inr (.inr h2)
theorem Spot.there {T:Ts}{dp:Nat->Nat}{b:Sp}{m:Nat}(hs:Spot T dp b m)(hk:b.kd≠0):T.M b.par (ky b.nm)=some (b.kd,b.no):=by
 rcases hs.hv with h1 | h1
 ·exact absurd h1.1 hk
 ·exact h1
theorem Spot.free {T:Ts}{dp:Nat->Nat}(h:Inv T dp){b:Sp}{m:Nat}(hs:Spot T dp b m)(hk:b.kd=0):T.M b.par (ky b.nm)=none:=by
 rcases hs.hv with h1 | h1
 ·exact h1.2.2
 ·rcases h.kinds h1 with h2 | h2
  ·have:b.kd=1:=h2
   omega
  ·have:b.kd=2:=h2
   omega
theorem jE6 {T T':Ts}{p:Nat}{k:Key}{v:Nat × Nat}(h1:v.1=1->T'.D[v.2]?=T.D[v.2]?)(h2:v.1=2->T'.F[v.2]?=T.F[v.2]?):lies T' p k v↔lies T p k v:=by
 unfold lies
 constructor
 ·rintro (⟨e,h3,h4⟩ | ⟨e,h4⟩)
  ·rw[h1 e] at h4;exact .inl ⟨e,h3,h4⟩
  ·rw[h2 e] at h4;exact .inr ⟨e,h4⟩
 ·rintro (⟨e,h3,h4⟩ | ⟨e,h4⟩)
  ·rw[<-h1 e] at h4;exact .inl ⟨e,h3,h4⟩
  ·rw[<-h2 e] at h4;exact .inr ⟨e,h4⟩
theorem jLq {T:Ts}{p p':Nat}{k k':Key}{v:Nat × Nat}(h:lies T p k v)(h':lies T p' k' v):p=p'/\k=k':=by
 rcases h with ⟨e,_,n,h1,h2⟩ | ⟨e,n,s,h1,h2⟩ <;> rcases h' with ⟨e',_,n',h1',h2'⟩ | ⟨e',n',s',h1',h2'⟩
 ·rw[h1] at h1'
  simp only[Option.some.injEq,Prod.mk.injEq] at h1'
  exact ⟨h1'.1,by rw[<-h2,<-h2',h1'.2]⟩
 ·omega
 ·omega
 ·rw[h1] at h1'
  simp only[Option.some.injEq,Prod.mk.injEq] at h1'
  exact ⟨h1'.1,by rw[<-h2,<-h2',h1'.2.1]⟩
theorem jAy {α:Type}{l:List α}{i:Nat}{a:α}(h:l[i]?=some a):i<l.length:=(QV.1 h).1
theorem jKv (T:Ts)(x:Nat)(v:Option (Nat × ByteArray))(h:x<=T.D.length)(y:Nat):(setD T x v).D[y]?=if y=x then some v else T.D[y]?:=jKq v h y
theorem jD6 (T:Ts)(x:Nat)(v:Option (Nat × ByteArray × Nat))(h:x<=T.F.length)(y:Nat):(setF T x v).F[y]?=if y=x then some v else T.F[y]?:=jKq v h y
theorem inv_size {T:Ts}{dp:Nat->Nat}(h:Inv T dp){x p s s':Nat}{n:ByteArray}(hx:T.F[x]?=some (some (p,n,s)))(hs:s'<=T.most):Inv (jD2 T x s') dp:=by
 have hp:plF T x=(p,n):=by unfold plF;rw[hx]
 have hg:∀y:Nat,(jD2 T x s').F[y]?=if y=x then some (some (p,n,s')) else T.F[y]?:=fun y=>by
  unfold jD2
  rw[jD6 T x _ (Nat.le_of_lt (jAy hx)),hp]
 have hl:∀q k v,lies (jD2 T x s') q k v↔lies T q k v:=fun q k v=>by
  unfold lies
  constructor
  ·rintro (⟨e,h3,h4⟩ | ⟨e,n1,s1,h4,h5⟩)
   ·exact .inl ⟨e,h3,h4⟩
   ·rw[hg] at h4
    by_cases hv:v.2=x
    ·rw[if_pos hv] at h4
     simp only[Option.some.injEq,Prod.mk.injEq] at h4
     obtain ⟨rfl,rfl,rfl⟩:=h4
     exact .inr ⟨e,_,s,by rw[hv];exact hx,h5⟩
    ·rw[if_neg hv] at h4
     exact .inr ⟨e,n1,s1,h4,h5⟩
  ·rintro (⟨e,h3,h4⟩ | ⟨e,n1,s1,h4,h5⟩)
   ·exact .inl ⟨e,h3,h4⟩
   ·by_cases hv:v.2=x
    ·rw[hv,hx] at h4
     simp only[Option.some.injEq,Prod.mk.injEq] at h4
     obtain ⟨rfl,rfl,rfl⟩:=h4
     exact .inr ⟨e,_,s',by rw[hg,if_pos hv],h5⟩
    ·exact .inr ⟨e,n1,s1,by rw[hg,if_neg hv];exact h4,h5⟩
 refine ⟨h.root,h.dl,?_,fun q k v=>(h.hM q k v).trans (hl q k v).symm,h.hP,h.hN,fun y q n1 s1 h1=>?_,h.d0,h.d1⟩
 ·have:(jD2 T x s').F.length=T.F.length:=(jE8 _).trans (by rw[if_pos (jAy hx)])
  rw[this]
  exact h.fl
 ·rw[hg] at h1
  by_cases hy:y=x
  ·rw[if_pos hy] at h1
   simp only[Option.some.injEq,Prod.mk.injEq] at h1
   rw[<-h1.2.2]
   exact hs
  ·rw[if_neg hy] at h1
   exact h.hS _ _ _ _ h1
theorem inv_mk {T:Ts}{dp:Nat->Nat}(h:Inv T dp){b:Sp}{m:Nat}(hb:Spot T dp b m)(hk:b.kd=0)(hm:m<=16)(hx:lowL T.D<T.dr) :
 Inv (jA6 (setD T (lowL T.D) (some (b.par,b.nm))) b.par b.nm (some (1,lowL T.D))) (fun y=>if y=lowL T.D then m else dp y):=by
 have hfr:=jHv T.D
 have hle:=jE5 T.D
 generalize lowL T.D=x at *
 have hx0:x≠0:=fun e=>hfr _ (by rw[e];exact h.root)
 have hno:=hb.free h hk
 obtain ⟨dq,hdq⟩:=hb.ht
 have hpx:b.par≠x:=fun e=>hfr dq (by rw[<-e];exact hdq)
 have hg:∀y:Nat,(jA6 (setD T x (some (b.par,b.nm))) b.par b.nm (some (1,x))).D[y]?=if y=x then some (some (b.par,b.nm)) else T.D[y]?:=fun y=>jKv T x _ hle y
 have hMx:∀p k,T.M p k≠some (1,x):=fun p k e=>by
  obtain ⟨_,n,h1,_⟩:=h.dirD e
  exact hfr _ h1
 refine ⟨?_,?_,h.fl,fun p k v=>?_,fun p k v hv=>?_,fun p k v hv=>?_,h.hS,?_,fun p k v hv=>?_⟩
 ·rw[hg,if_neg (Ne.symm hx0)];exact h.root
 ·refine Qk (Nat.le_of_eq (jE8 _)) ?_
  by_cases hl:x<T.D.length
  ·rw[if_pos hl];exact h.dl
  ·rw[if_neg hl];show T.D.length+1<=T.dr;omega
 ·show putM T.M b.par (ky b.nm) (some (1,x)) p k=some v↔_
  by_cases hv:v=(1,x)
  ·subst hv
   constructor
   ·intro e
    by_cases hpk:p=b.par/\k=ky b.nm
    ·exact .inl ⟨rfl,hx0,b.nm,by rw[hg,if_pos rfl,hpk.1],hpk.2.symm⟩
    ·rw[jCj hpk] at e
     exact absurd e (hMx p k)
   ·rintro (⟨_,_,n,h1,h2⟩ | ⟨e,_⟩)
    ·rw[hg,if_pos rfl] at h1
     simp only[Option.some.injEq,Prod.mk.injEq] at h1
     rw[<-h2,<-h1.1,<-h1.2,jC7]
    ·cases e
  ·have hl:lies (jA6 (setD T x (some (b.par,b.nm))) b.par b.nm (some (1,x))) p k v↔lies T p k v:=jE6 (fun e=>by
    rw[hg,if_neg (fun e2=>hv (by rw[<-e2,<-e]))]) (fun _=>rfl)
   rw[hl,<-h.hM]
   by_cases hpk:p=b.par/\k=ky b.nm
   ·rw[hpk.1,hpk.2,jC7,hno]
    simp[Ne.symm hv]
   ·rw[jCj hpk]
 ·have hv:putM T.M b.par (ky b.nm) (some (1,x)) p k=some v:=hv
  have:∃d,T.D[p]?=some (some d):=by
   by_cases hpk:p=b.par/\k=ky b.nm
   ·rw[hpk.1];exact ⟨dq,hdq⟩
   ·rw[jCj hpk] at hv
    exact h.hP _ _ _ hv
  obtain ⟨d,hd⟩:=this
  exact ⟨d,by rw[hg,if_neg (fun e=>hfr d (by rw[<-e];exact hd))];exact hd⟩
 ·have hv:putM T.M b.par (ky b.nm) (some (1,x)) p k=some v:=hv
  by_cases hpk:p=b.par/\k=ky b.nm
  ·rw[hpk.2];exact hb.hn
  ·rw[jCj hpk] at hv
   exact h.hN _ _ _ hv
 ·show (if 0=x then m else dp 0)=0
  rw[if_neg (Ne.symm hx0)];exact h.d0
 ·have hv:putM T.M b.par (ky b.nm) (some (1,x)) p k=some v:=hv
  show (if p=x then m else dp p)+1<=16/\(v.1=1->(if v.2=x then m else dp v.2)=(if p=x then m else dp p)+1)
  by_cases hpk:p=b.par/\k=ky b.nm
  ·rw[hpk.1,hpk.2,jC7] at hv
   cases hv
   rw[hpk.1,if_neg hpx,if_pos rfl]
   have:=hb.hd
   exact ⟨by omega,fun _=>by omega⟩
  ·rw[jCj hpk] at hv
   obtain ⟨d,hd⟩:=h.hP _ _ _ hv
   rw[if_neg (fun e=>hfr d (by rw[<-e];exact hd))]
   refine ⟨(h.d1 _ _ _ hv).1,fun e=>?_⟩
   rw[if_neg (fun e2=>hMx p k (by rw[hv,<-e,<-e2])),(h.d1 _ _ _ hv).2 e]
theorem inv_cr {T:Ts}{dp:Nat->Nat}(h:Inv T dp){b:Sp}{m:Nat}(hb:Spot T dp b m)(hk:b.kd=0)(hm:m<=16)(hx:lowL T.F<T.fr) :
 Inv (jA6 (setF T (lowL T.F) (some (b.par,b.nm,0))) b.par b.nm (some (2,lowL T.F))) dp:=by
 have hfr:=jHv T.F
 have hle:=jE5 T.F
 generalize lowL T.F=x at *
 have hno:=hb.free h hk
 have hg:∀y:Nat,(jA6 (setF T x (some (b.par,b.nm,0))) b.par b.nm (some (2,x))).F[y]?=if y=x then some (some (b.par,b.nm,0)) else T.F[y]?:=fun y=>jD6 T x _ hle y
 have hMx:∀p k,T.M p k≠some (2,x):=fun p k e=>by
  obtain ⟨n,s,h1,_⟩:=h.fileF e
  exact hfr _ h1
 refine ⟨h.root,h.dl,?_,fun p k v=>?_,fun p k v hv=>?_,fun p k v hv=>?_,fun y q n1 s1 h1=>?_,h.d0,fun p k v hv=>?_⟩
 ·refine Qk (Nat.le_of_eq (jE8 _)) ?_
  by_cases hl:x<T.F.length
  ·rw[if_pos hl];exact h.fl
  ·rw[if_neg hl];show T.F.length+1<=T.fr;omega
 ·show putM T.M b.par (ky b.nm) (some (2,x)) p k=some v↔_
  by_cases hv:v=(2,x)
  ·subst hv
   constructor
   ·intro e
    by_cases hpk:p=b.par/\k=ky b.nm
    ·exact .inr ⟨rfl,b.nm,0,by rw[hg,if_pos rfl,hpk.1],hpk.2.symm⟩
    ·rw[jCj hpk] at e
     exact absurd e (hMx p k)
   ·rintro (⟨e,_⟩ | ⟨_,n,s,h1,h2⟩)
    ·cases e
    ·rw[hg,if_pos rfl] at h1
     simp only[Option.some.injEq,Prod.mk.injEq] at h1
     rw[<-h2,<-h1.1,<-h1.2.1,jC7]
  ·have hl:lies (jA6 (setF T x (some (b.par,b.nm,0))) b.par b.nm (some (2,x))) p k v↔lies T p k v:=jE6 (fun _=>rfl) (fun e=>by
    rw[hg,if_neg (fun e2=>hv (by rw[<-e2,<-e]))])
   rw[hl,<-h.hM]
   by_cases hpk:p=b.par/\k=ky b.nm
   ·rw[hpk.1,hpk.2,jC7,hno]
    simp[Ne.symm hv]
   ·rw[jCj hpk]
 ·have hv:putM T.M b.par (ky b.nm) (some (2,x)) p k=some v:=hv
  show ∃d,T.D[p]?=some (some d)
  by_cases hpk:p=b.par/\k=ky b.nm
  ·rw[hpk.1];exact hb.ht
  ·rw[jCj hpk] at hv
   exact h.hP _ _ _ hv
 ·have hv:putM T.M b.par (ky b.nm) (some (2,x)) p k=some v:=hv
  by_cases hpk:p=b.par/\k=ky b.nm
  ·rw[hpk.2];exact hb.hn
  ·rw[jCj hpk] at hv
   exact h.hN _ _ _ hv
 ·rw[hg] at h1
  by_cases hy:y=x
  ·rw[if_pos hy] at h1
   simp only[Option.some.injEq,Prod.mk.injEq] at h1
   rw[<-h1.2.2]
   exact Kj _
  ·rw[if_neg hy] at h1
   exact h.hS _ _ _ _ h1
 ·have hv:putM T.M b.par (ky b.nm) (some (2,x)) p k=some v:=hv
  by_cases hpk:p=b.par/\k=ky b.nm
  ·rw[hpk.1,hpk.2,jC7] at hv
   cases hv
   rw[hpk.1]
   have:=hb.hd
   exact ⟨by omega,fun e=>by cases e⟩
  ·rw[jCj hpk] at hv
   exact h.d1 _ _ _ hv
theorem inv_rm {T:Ts}{dp:Nat->Nat}(h:Inv T dp){b:Sp}{m:Nat}(hb:Spot T dp b m)(hk:b.kd=2):Inv (setF (jA6 T b.par b.nm none) b.no none) dp:=by
 have hM:=hb.there (by omega)
 rw[hk] at hM
 obtain ⟨n0,s0,hF,hn0⟩:=h.fileF hM
 have hg:∀y:Nat,(setF (jA6 T b.par b.nm none) b.no none).F[y]?=if y=b.no then some none else T.F[y]?:=fun y=>jD6 (jA6 T b.par b.nm none) b.no _ (Nat.le_of_lt (jAy hF)) y
 have hmm:∀p k v,putM T.M b.par (ky b.nm) none p k=some v->T.M p k=some v:=fun p k v hv=>by
  by_cases hpk:p=b.par/\k=ky b.nm
  ·rw[hpk.1,hpk.2,jC7] at hv;cases hv
  ·rw[jCj hpk] at hv;exact hv
 refine ⟨h.root,h.dl,?_,fun p k v=>?_,fun p k v hv=>h.hP _ _ _ (hmm p k v hv),fun p k v hv=>h.hN _ _ _ (hmm p k v hv),fun y q n1 s1 h1=>?_,h.d0,fun p k v hv=>h.d1 _ _ _ (hmm p k v hv)⟩
 ·refine Qk (Nat.le_of_eq ((jE8 _).trans (if_pos (jAy hF)))) h.fl
 ·show putM T.M b.par (ky b.nm) none p k=some v↔_
  by_cases hv:v=(2,b.no)
  ·subst hv
   constructor
   ·intro e
    have e2:=hmm _ _ _ e
    obtain ⟨e3,e4⟩:=jLq ((h.hM _ _ _).1 e2) ((h.hM _ _ _).1 hM)
    rw[e3,e4,jC7] at e
    cases e
   ·rintro (⟨e,_⟩ | ⟨_,n,s,h1,h2⟩)
    ·cases e
    ·rw[hg,if_pos rfl] at h1
     cases h1
  ·have hl:lies (setF (jA6 T b.par b.nm none) b.no none) p k v↔lies T p k v:=jE6 (fun _=>rfl) (fun e=>by
    rw[hg,if_neg (fun e2=>hv (by rw[<-e2,<-e]))])
   rw[hl,<-h.hM]
   by_cases hpk:p=b.par/\k=ky b.nm
   ·rw[hpk.1,hpk.2,jC7,hM]
    simp[Ne.symm hv]
   ·rw[jCj hpk]
 ·rw[hg] at h1
  by_cases hy:y=b.no
  ·rw[if_pos hy] at h1;cases h1
  ·rw[if_neg hy] at h1
   exact h.hS _ _ _ _ h1
theorem inv_rd {T:Ts}{dp:Nat->Nat}(h:Inv T dp){b:Sp}{m:Nat}(hb:Spot T dp b m)(hk:b.kd=1)(hE:∀k,T.M b.no k=none):Inv (setD (jA6 T b.par b.nm none) b.no none) dp:=by
 have hM:=hb.there (by omega)
 rw[hk] at hM
 obtain ⟨hx0,n0,hD,hn0⟩:=h.dirD hM
 have hg:∀y:Nat,(setD (jA6 T b.par b.nm none) b.no none).D[y]?=if y=b.no then some none else T.D[y]?:=fun y=>jKv (jA6 T b.par b.nm none) b.no _ (Nat.le_of_lt (jAy hD)) y
 have hmm:∀p k v,putM T.M b.par (ky b.nm) none p k=some v->T.M p k=some v:=fun p k v hv=>by
  by_cases hpk:p=b.par/\k=ky b.nm
  ·rw[hpk.1,hpk.2,jC7] at hv;cases hv
  ·rw[jCj hpk] at hv;exact hv
 refine ⟨?_,?_,h.fl,fun p k v=>?_,fun p k v hv=>?_,fun p k v hv=>h.hN _ _ _ (hmm p k v hv),h.hS,h.d0,fun p k v hv=>h.d1 _ _ _ (hmm p k v hv)⟩
 ·rw[hg,if_neg (Ne.symm hx0)];exact h.root
 ·refine Qk (Nat.le_of_eq ((jE8 _).trans (if_pos (jAy hD)))) h.dl
 ·show putM T.M b.par (ky b.nm) none p k=some v↔_
  by_cases hv:v=(1,b.no)
  ·subst hv
   constructor
   ·intro e
    have e2:=hmm _ _ _ e
    obtain ⟨e3,e4⟩:=jLq ((h.hM _ _ _).1 e2) ((h.hM _ _ _).1 hM)
    rw[e3,e4,jC7] at e
    cases e
   ·rintro (⟨_,_,n,h1,h2⟩ | ⟨e,_⟩)
    ·rw[hg,if_pos rfl] at h1
     cases h1
    ·cases e
  ·have hl:lies (setD (jA6 T b.par b.nm none) b.no none) p k v↔lies T p k v:=jE6 (fun e=>by
    rw[hg,if_neg (fun e2=>hv (by rw[<-e2,<-e]))]) (fun _=>rfl)
   rw[hl,<-h.hM]
   by_cases hpk:p=b.par/\k=ky b.nm
   ·rw[hpk.1,hpk.2,jC7,hM]
    simp[Ne.symm hv]
   ·rw[jCj hpk]
 ·have hv:=hmm p k v hv
  obtain ⟨d,hd⟩:=h.hP _ _ _ hv
  exact ⟨d,by rw[hg,if_neg (fun e=>by rw[e,hE k] at hv;cases hv)];exact hd⟩
inductive Und (T:Ts)(x:Nat):Nat->Prop
 | refl:Und T x x
 | step {p:Nat} {k:Key} {y:Nat}:Und T x p->T.M p k=some (1,y)->Und T x y
theorem Und.le {T:Ts}{dp:Nat->Nat}(h:Inv T dp){x y:Nat}(hu:Und T x y):dp x<=dp y:=by
 induction hu with
 | refl=>exact Qj _
 | step _ hm ih=>have:=(h.d1 _ _ _ hm).2 rfl;simp only at this;omega
theorem Rch.ahead {T:Ts}{dp:Nat->Nat}(h:Inv T dp){x y:Nat}(hu:Und T x y):∀j,Rch T y j->Rch T x (dp y-dp x+j):=by
 induction hu with
 | refl=>intro j hj;rw[Nat.sub_self,Nat.zero_add];exact hj
 | step hu hm ih =>
   intro j hj
   have:=ih (j+1) (.more hm hj)
   have h1:=(h.d1 _ _ _ hm).2 rfl
   have h2:=hu.le h
   simp only at h1
   rw[h1,show ∀a b c:Nat,b<=a->a+1-b+c=a-b+(c+1) by intros;omega]
   ·exact this
   ·exact h2
theorem Lds.und {T:Ts}{dp:Nat->Nat}(h:Inv T dp){x y:Nat}(hu:Und T x y){P:List ByteArray}(hP:Lds T P x):∀Q,Lds T Q y->P <+: Q:=by
 induction hu with
 | refl=>intro Q hQ;rw[hP.eq h hQ];exact List.prefix_rfl
 | step hu hm ih =>
   intro Q hQ
   obtain ⟨h5,n,h6,h7⟩:=h.dirD hm
   cases hQ with
   | nil=>exact absurd rfl h5
   | snoc h8 h9 =>
     obtain ⟨_,n',h6',h7'⟩:=h.dirD h9
     rw[h6] at h6'
     simp only[Option.some.injEq,Prod.mk.injEq] at h6'
     obtain ⟨rfl,rfl⟩:=h6'
     exact (ih _ h8).trans (List.prefix_append _ _)
theorem inv_mvD {T:Ts}{dp:Nat->Nat}(h:Inv T dp){a b:Sp}{l m:Nat}(ha:Spot T dp a l)(hb:Spot T dp b m)(hka:a.kd=1)(hkb:b.kd=0)(hnu:¬Und T a.no b.par)(hm:m<=16)(hr:∀j,Rch T a.no j->m+j<=16):∃dp',Inv (movT T a b) dp':=by
 have hMa:=ha.there (by omega)
 have hMb:=hb.free h hkb
 rw[hka] at hMa
 obtain ⟨hx0,n0,hD,hn0⟩:=h.dirD hMa
 have hmv:movT T a b=setD (jA6 (jA6 T a.par a.nm none) b.par b.nm (some (1,a.no))) a.no (some (b.par,b.nm)):=by unfold movT;rw[if_pos hka,hka]
 rw[hmv]
 have hab:¬(b.par=a.par/\ky b.nm=ky a.nm):=fun e=>by rw[e.1,e.2,hMa] at hMb;cases hMb
 have hg:∀y:Nat,(setD (jA6 (jA6 T a.par a.nm none) b.par b.nm (some (1,a.no))) a.no (some (b.par,b.nm))).D[y]?=if y=a.no then some (some (b.par,b.nm)) else T.D[y]?:=fun y=>jKv (jA6 (jA6 T a.par a.nm none) b.par b.nm (some (1,a.no))) a.no _ (Nat.le_of_lt (jAy hD)) y
 have mB:putM (putM T.M a.par (ky a.nm) none) b.par (ky b.nm) (some (1,a.no)) b.par (ky b.nm)=some (1,a.no):=jC7 _ _ _ _
 have mA:putM (putM T.M a.par (ky a.nm) none) b.par (ky b.nm) (some (1,a.no)) a.par (ky a.nm)=none:=by
  rw[jCj (fun e=>hab ⟨e.1.symm,e.2.symm⟩),jC7]
 have mO:∀p k,¬(p=b.par/\k=ky b.nm)->¬(p=a.par/\k=ky a.nm)->putM (putM T.M a.par (ky a.nm) none) b.par (ky b.nm) (some (1,a.no)) p k=T.M p k:=fun p k h1 h2=>by
  rw[jCj h1,jCj h2]
 have hcase:∀p k v,putM (putM T.M a.par (ky a.nm) none) b.par (ky b.nm) (some (1,a.no)) p k=some v->(p=b.par/\k=ky b.nm/\v=(1,a.no))\/(T.M p k=some v/\v≠(1,a.no)):=fun p k v hv=>by
  by_cases h1:p=b.par/\k=ky b.nm
  ·rw[h1.1,h1.2,mB] at hv
   exact .inl ⟨h1.1,h1.2,(QW hv).symm⟩
  ·by_cases h2:p=a.par/\k=ky a.nm
   ·rw[h2.1,h2.2,mA] at hv;cases hv
   ·rw[mO p k h1 h2] at hv
    refine .inr ⟨hv,fun e=>h2 ?_⟩
    rw[e] at hv
    exact jLq ((h.hM _ _ _).1 hv) ((h.hM _ _ _).1 hMa)
 classical
 refine ⟨fun y=>if Und T a.no y then dp y-dp a.no+m else dp y,?_,?_,h.fl,fun p k v=>?_,fun p k v hv=>?_,fun p k v hv=>?_,h.hS,?_,fun p k v hv=>?_⟩
 ·rw[hg,if_neg (Ne.symm hx0)];exact h.root
 ·exact Qk (Nat.le_of_eq ((jE8 _).trans (if_pos (jAy hD)))) h.dl
 ·show putM (putM T.M a.par (ky a.nm) none) b.par (ky b.nm) (some (1,a.no)) p k=some v↔_
  by_cases hv:v=(1,a.no)
  ·subst hv
   constructor
   ·intro e
    rcases hcase p k _ e with ⟨rfl,rfl,_⟩ | ⟨_,e2⟩
    ·exact .inl ⟨rfl,hx0,b.nm,by rw[hg,if_pos rfl],rfl⟩
    ·exact absurd rfl e2
   ·rintro (⟨_,_,n,h1,h2⟩ | ⟨e,_⟩)
    ·rw[hg,if_pos rfl] at h1
     simp only[Option.some.injEq,Prod.mk.injEq] at h1
     rw[<-h2,<-h1.1,<-h1.2,mB]
    ·cases e
  ·have hl:lies (setD (jA6 (jA6 T a.par a.nm none) b.par b.nm (some (1,a.no))) a.no (some (b.par,b.nm))) p k v↔lies T p k v:=jE6 (fun e=>by
    rw[hg,if_neg (fun e2=>hv (by rw[<-e2,<-e]))]) (fun _=>rfl)
   rw[hl,<-h.hM]
   by_cases h1:p=b.par/\k=ky b.nm
   ·rw[h1.1,h1.2,mB,hMb]
    simp[Ne.symm hv]
   ·by_cases h2:p=a.par/\k=ky a.nm
    ·rw[h2.1,h2.2,mA,hMa]
     simp[Ne.symm hv]
    ·rw[mO p k h1 h2]
 ·have:∃d,T.D[p]?=some (some d):=by
   rcases hcase p k v hv with ⟨rfl,_,_⟩ | ⟨e,_⟩
   ·exact hb.ht
   ·exact h.hP _ _ _ e
  obtain ⟨d,hd⟩:=this
  by_cases hp:p=a.no
  ·exact ⟨_,by rw[hg,if_pos hp]⟩
  ·exact ⟨d,by rw[hg,if_neg hp];exact hd⟩
 ·rcases hcase p k v hv with ⟨_,rfl,_⟩ | ⟨e,_⟩
  ·exact hb.hn
  ·exact h.hN _ _ _ e
 ·show (if Und T a.no 0 then dp 0-dp a.no+m else dp 0)=0
  rw[if_neg,h.d0]
  intro hu
  have hu0:=hu.le h
  rw[h.d0] at hu0
  have:=(h.d1 _ _ _ hMa).2 rfl
  simp only at this
  omega
 ·show (if Und T a.no p then dp p-dp a.no+m else dp p)+1<=16/\(v.1=1->(if Und T a.no v.2 then dp v.2-dp a.no+m else dp v.2)=(if Und T a.no p then dp p-dp a.no+m else dp p)+1)
  have hbd:=hb.hd
  rcases hcase p k v hv with ⟨rfl,rfl,rfl⟩ | ⟨e,hne⟩
  ·rw[if_neg hnu,if_pos .refl]
   exact ⟨by omega,fun _=>by rw[Nat.sub_self];omega⟩
  ·obtain ⟨d1,d2⟩:=h.d1 _ _ _ e
   by_cases hu:Und T a.no p
   ·rw[if_pos hu]
    have h1:=hr _ (Rch.ahead h hu 1 (.one e))
    refine ⟨by omega,fun e1=>?_⟩
    have hu2:Und T a.no v.2:=.step hu (show T.M p k=some (1,v.2) by rw[e,<-e1])
    rw[if_pos hu2]
    have:=d2 e1
    have:=hu.le h
    omega
   ·rw[if_neg hu]
    refine ⟨d1,fun e1=>?_⟩
    have e':T.M p k=some (1,v.2):=by rw[e,<-e1]
    rw[if_neg,d2 e1]
    have hne':v.2≠a.no:=fun e2=>hne (by rw[<-e1,<-e2])
    generalize v.2=z at e' hne'
    intro hu2
    cases hu2 with
    | refl=>exact hne' rfl
    | step hu3 hm3 =>
      obtain ⟨_,n1,q1,_⟩:=h.dirD hm3
      obtain ⟨_,n2,q2,_⟩:=h.dirD e'
      rw[q1] at q2
      simp only[Option.some.injEq,Prod.mk.injEq] at q2
      rw[q2.1] at hu3
      exact hu hu3
theorem inv_mvF {T:Ts}{dp:Nat->Nat}(h:Inv T dp){a b:Sp}{l m:Nat}(ha:Spot T dp a l)(hb:Spot T dp b m)(hka:a.kd=2)(hkb:b.kd=0\/b.kd=2)(hab:¬(b.par=a.par/\b.nm=a.nm))(hm:m<=16) :
 Inv (if b.kd=0 then movT T a b else setF (movT T a b) b.no none) dp:=by
 have hMa:=ha.there (by omega)
 rw[hka] at hMa
 obtain ⟨n0,s0,hF,hn0⟩:=h.fileF hMa
 have hsz:szF T a.no=s0:=by unfold szF;rw[hF]
 have hmv:movT T a b=setF (jA6 (jA6 T a.par a.nm none) b.par b.nm (some (2,a.no))) a.no (some (b.par,b.nm,s0)):=by unfold movT;rw[if_neg (by omega),hka,hsz]
 rw[hmv]
 have hab:¬(b.par=a.par/\ky b.nm=ky a.nm):=fun e=>hab ⟨e.1,ky_inj e.2⟩
 have hg:∀y:Nat,(setF (jA6 (jA6 T a.par a.nm none) b.par b.nm (some (2,a.no))) a.no (some (b.par,b.nm,s0))).F[y]?=if y=a.no then some (some (b.par,b.nm,s0)) else T.F[y]?:=fun y=>jD6 (jA6 (jA6 T a.par a.nm none) b.par b.nm (some (2,a.no))) a.no _ (Nat.le_of_lt (jAy hF)) y
 have hlen:(setF (jA6 (jA6 T a.par a.nm none) b.par b.nm (some (2,a.no))) a.no (some (b.par,b.nm,s0))).F.length=T.F.length:=(jE8 _).trans (if_pos (jAy hF))
 have mB:putM (putM T.M a.par (ky a.nm) none) b.par (ky b.nm) (some (2,a.no)) b.par (ky b.nm)=some (2,a.no):=jC7 _ _ _ _
 have mA:putM (putM T.M a.par (ky a.nm) none) b.par (ky b.nm) (some (2,a.no)) a.par (ky a.nm)=none:=by
  rw[jCj (fun e=>hab ⟨e.1.symm,e.2.symm⟩),jC7]
 have mO:∀p k,¬(p=b.par/\k=ky b.nm)->¬(p=a.par/\k=ky a.nm)->putM (putM T.M a.par (ky a.nm) none) b.par (ky b.nm) (some (2,a.no)) p k=T.M p k:=fun p k h1 h2=>by
  rw[jCj h1,jCj h2]
 have hcase:∀p k v,putM (putM T.M a.par (ky a.nm) none) b.par (ky b.nm) (some (2,a.no)) p k=some v->(p=b.par/\k=ky b.nm/\v=(2,a.no))\/(T.M p k=some v/\v≠(2,a.no)/\¬(p=b.par/\k=ky b.nm)):=fun p k v hv=>by
  by_cases h1:p=b.par/\k=ky b.nm
  ·rw[h1.1,h1.2,mB] at hv
   exact .inl ⟨h1.1,h1.2,(QW hv).symm⟩
  ·by_cases h2:p=a.par/\k=ky a.nm
   ·rw[h2.1,h2.2,mA] at hv;cases hv
   ·rw[mO p k h1 h2] at hv
    refine .inr ⟨hv,fun e=>h2 ?_,h1⟩
    rw[e] at hv
    exact jLq ((h.hM _ _ _).1 hv) ((h.hM _ _ _).1 hMa)
 have hP':∀p k v,putM (putM T.M a.par (ky a.nm) none) b.par (ky b.nm) (some (2,a.no)) p k=some v->tk T p:=fun p k v hv=>by
  rcases hcase p k v hv with ⟨rfl,_,_⟩ | ⟨e,_⟩
  ·exact hb.ht
  ·exact h.hP _ _ _ e
 have hN':∀p k v,putM (putM T.M a.par (ky a.nm) none) b.par (ky b.nm) (some (2,a.no)) p k=some v->Pa.isN k=true:=fun p k v hv=>by
  rcases hcase p k v hv with ⟨_,rfl,_⟩ | ⟨e,_⟩
  ·exact hb.hn
  ·exact h.hN _ _ _ e
 have hd1':∀p k v,putM (putM T.M a.par (ky a.nm) none) b.par (ky b.nm) (some (2,a.no)) p k=some v->dp p+1<=16/\(v.1=1->dp v.2=dp p+1):=fun p k v hv=>by
  have hbd:=hb.hd
  rcases hcase p k v hv with ⟨rfl,_,rfl⟩ | ⟨e,_⟩
  ·exact ⟨by omega,fun e=>by cases e⟩
  ·exact h.d1 _ _ _ e
 rcases hkb with hkb | hkb
 ·rw[if_pos hkb]
  have hMb:=hb.free h hkb
  refine ⟨h.root,h.dl,by rw[hlen];exact h.fl,fun p k v=>?_,hP',hN',fun y q n1 s1 h1=>?_,h.d0,hd1'⟩
  ·show putM (putM T.M a.par (ky a.nm) none) b.par (ky b.nm) (some (2,a.no)) p k=some v↔_
   by_cases hv:v=(2,a.no)
   ·subst hv
    constructor
    ·intro e
     rcases hcase p k _ e with ⟨rfl,rfl,_⟩ | ⟨_,e2,_⟩
     ·exact .inr ⟨rfl,b.nm,s0,by rw[hg,if_pos rfl],rfl⟩
     ·exact absurd rfl e2
    ·rintro (⟨e,_⟩ | ⟨_,n,s,h1,h2⟩)
     ·cases e
     ·rw[hg,if_pos rfl] at h1
      simp only[Option.some.injEq,Prod.mk.injEq] at h1
      rw[<-h2,<-h1.1,<-h1.2.1,mB]
   ·have hl:lies (setF (jA6 (jA6 T a.par a.nm none) b.par b.nm (some (2,a.no))) a.no (some (b.par,b.nm,s0))) p k v↔lies T p k v:=jE6 (fun _=>rfl) (fun e=>by
     rw[hg,if_neg (fun e2=>hv (by rw[<-e2,<-e]))])
    rw[hl,<-h.hM]
    by_cases h1:p=b.par/\k=ky b.nm
    ·rw[h1.1,h1.2,mB,hMb]
     simp[Ne.symm hv]
    ·by_cases h2:p=a.par/\k=ky a.nm
     ·rw[h2.1,h2.2,mA,hMa]
      simp[Ne.symm hv]
     ·rw[mO p k h1 h2]
  ·rw[hg] at h1
   by_cases hy:y=a.no
   ·rw[if_pos hy] at h1
    simp only[Option.some.injEq,Prod.mk.injEq] at h1
    rw[<-h1.2.2]
    exact h.hS _ _ _ _ hF
   ·rw[if_neg hy] at h1
    exact h.hS _ _ _ _ h1
 ·rw[if_neg (by omega)]
  have hMb:=hb.there (by omega)
  rw[hkb] at hMb
  obtain ⟨n2,s2,hF2,hn2⟩:=h.fileF hMb
  have hno:b.no≠a.no:=fun e=>by
   rw[e] at hMb
   exact hab (jLq ((h.hM _ _ _).1 hMb) ((h.hM _ _ _).1 hMa))
  have hg2:∀y:Nat,(setF (setF (jA6 (jA6 T a.par a.nm none) b.par b.nm (some (2,a.no))) a.no (some (b.par,b.nm,s0))) b.no none).F[y]?=if y=b.no then some none else if y=a.no then some (some (b.par,b.nm,s0)) else T.F[y]?:=fun y=>by
   rw[jD6 _ b.no _ (by rw[hlen];exact Nat.le_of_lt (jAy hF2)) y,hg]
  refine ⟨h.root,h.dl,?_,fun p k v=>?_,hP',hN',fun y q n1 s1 h1=>?_,h.d0,hd1'⟩
  ·refine Qk (Nat.le_of_eq ((jE8 _).trans (if_pos (by rw[hlen];exact jAy hF2)))) (by rw[hlen];exact h.fl)
  ·show putM (putM T.M a.par (ky a.nm) none) b.par (ky b.nm) (some (2,a.no)) p k=some v↔_
   by_cases hv:v=(2,a.no)
   ·subst hv
    constructor
    ·intro e
     rcases hcase p k _ e with ⟨rfl,rfl,_⟩ | ⟨_,e2,_⟩
     ·exact .inr ⟨rfl,b.nm,s0,by rw[hg2,if_neg (Ne.symm hno),if_pos rfl],rfl⟩
     ·exact absurd rfl e2
    ·rintro (⟨e,_⟩ | ⟨_,n,s,h1,h2⟩)
     ·cases e
     ·rw[hg2,if_neg (Ne.symm hno),if_pos rfl] at h1
      simp only[Option.some.injEq,Prod.mk.injEq] at h1
      rw[<-h2,<-h1.1,<-h1.2.1,mB]
   ·by_cases hv2:v=(2,b.no)
    ·subst hv2
     constructor
     ·intro e
      rcases hcase p k _ e with ⟨_,_,e2⟩ | ⟨e2,_,e3⟩
      ·exact absurd e2 hv
      ·exact absurd (jLq ((h.hM _ _ _).1 e2) ((h.hM _ _ _).1 hMb)) e3
     ·rintro (⟨e,_⟩ | ⟨_,n,s,h1,h2⟩)
      ·cases e
      ·rw[hg2,if_pos rfl] at h1
       cases h1
    ·have hl:lies (setF (setF (jA6 (jA6 T a.par a.nm none) b.par b.nm (some (2,a.no))) a.no (some (b.par,b.nm,s0))) b.no none) p k v↔lies T p k v:=jE6 (fun _=>rfl) (fun e=>by
      rw[hg2,if_neg (fun e2=>hv2 (by rw[<-e2,<-e])),if_neg (fun e2=>hv (by rw[<-e2,<-e]))])
     rw[hl,<-h.hM]
     by_cases h1:p=b.par/\k=ky b.nm
     ·rw[h1.1,h1.2,mB,hMb]
      simp[Ne.symm hv,Ne.symm hv2]
     ·by_cases h2:p=a.par/\k=ky a.nm
      ·rw[h2.1,h2.2,mA,hMa]
       simp[Ne.symm hv]
      ·rw[mO p k h1 h2]
  ·rw[hg2] at h1
   by_cases hy:y=b.no
   ·rw[if_pos hy] at h1;cases h1
   ·rw[if_neg hy] at h1
    by_cases hy2:y=a.no
    ·rw[if_pos hy2] at h1
     simp only[Option.some.injEq,Prod.mk.injEq] at h1
     rw[<-h1.2.2]
     exact h.hS _ _ _ _ hF
    ·rw[if_neg hy2] at h1
     exact h.hS _ _ _ _ h1
