import Derived.Test.YtfnklhajafmooaaGreatDoorG05
import Derived.Test.YtfnklhajafmooaaGreatDoorG06
import Derived.Shelf.SlIter.Nil
import Derived.Shelf.SortM.Plain
import Derived.Shelf.SortM.SortNone
set_option maxHeartbeats 1000000
set_option maxRecDepth 20000
namespace Go.Proofs.YtfnklhajafmooaaGreatDoor.Tr
open Go.RowKit Go.Lib Go.Proofs.Tryz
def newT (f d m:Nat):Ts:=⟨f,d+1,m,[some (0,e0)],[],fun _ _=>none⟩
theorem newT_inv (f d m:Nat):Inv (newT f d m) (fun _=>0):=by
 refine ⟨rfl,by simp[newT],by simp[newT],fun p k v=>⟨fun h=>(by cases h),fun h=>?_⟩,fun p k v h=>(by cases h),fun p k v h=>(by cases h),fun x p n s h=>(by simp[newT] at h),rfl,fun p k v h=>(by cases h)⟩
 rcases h with ⟨_,h2,n,h3,_⟩ | ⟨_,n,s,h3,_⟩
 ·have:=jAy h3
  simp[newT] at this
  exact absurd this h2
 ·simp[newT] at h3
def tkF (T:Ts)(x:Nat):Prop:=∃r,T.F[x]?=some (some r)
inductive Say (T:Ts)(e:Ef)(T':Ts):Prop
 | none:e=Ef.no->(∀x,tkF T' x↔tkF T x)->Say T e T'
 | made:e.kind=1->e.file=(lowL T.F:Int)->e.gone=-1->(∀x,tkF T' x↔x=lowL T.F\/tkF T x)->Say T e T'
 | touch (n:Nat):e.kind=2\/e.kind=3\/e.kind=4->e.file=(n:Int)->e.gone=-1->tkF T n->(∀x,tkF T' x↔tkF T x)->Say T e T'
 | gone (n:Nat):e.kind=5->e.file=(n:Int)->tkF T n->(∀x,tkF T' x↔x≠n/\tkF T x)->Say T e T'
 | over (n g:Nat):e.kind=6->e.file=(n:Int)->e.gone=(g:Int)->tkF T n->tkF T g->n≠g->(∀x,tkF T' x↔x≠g/\tkF T x)->Say T e T'
theorem jD3 {T:Ts}{c:Int}:Say T (ref T c).2.1 (ref T c).2.2:=.none rfl fun _=>Iff.rfl
theorem tkF_set {T:Ts}{x:Nat}{r:Nat × ByteArray × Nat}(hx:x<=T.F.length)(y:Nat):tkF (setF T x (some r)) y↔y=x\/tkF T y:=by
 unfold tkF
 rw[jD6 T x _ hx]
 by_cases h:y=x
 ·rw[if_pos h];exact ⟨fun _=>.inl h,fun _=>⟨r,rfl⟩⟩
 ·rw[if_neg h];exact ⟨fun h2=>.inr h2,fun h2=>h2.resolve_left h⟩
theorem tkF_del {T:Ts}{x:Nat}(hx:x<=T.F.length)(y:Nat):tkF (setF T x none) y↔y≠x/\tkF T y:=by
 unfold tkF
 rw[jD6 T x _ hx]
 by_cases h:y=x
 ·rw[if_pos h];exact ⟨fun ⟨r,hr⟩=>(by cases hr),fun h2=>absurd h h2.1⟩
 ·rw[if_neg h];exact ⟨fun h2=>⟨h,h2⟩,fun h2=>h2.2⟩
theorem jM4 {T:Ts}{dp:Nat->Nat}(h:Inv T dp){L:List ByteArray}(hL:L.all Pa.nm=true)(he:(fndF T L).2=0):∃n s,T.F[(fndF T L).1.no]?=some (some ((fndF T L).1.par,n,s)):=by
 obtain ⟨e1,e2,e3,e4⟩:=jG6 he
 rw[e1]
 have g:=got h hL e2
 have hL0:L≠[]:=jG2 e4
 have sp:=g.sp hL0
 have hk:(fndA T L).1.kd=2:=by
  rcases sp.kd h with k | k | k
  ·exact absurd k e3
  ·exact absurd k e4
  ·exact k
 have hm:=sp.there e3
 rw[hk] at hm
 obtain ⟨n,s,h1,_⟩:=h.fileF hm
 exact ⟨n,s,h1⟩
theorem mkd_say {T:Ts}{L:List ByteArray}:Say T (mkdT T L).2.1 (mkdT T L).2.2:=by
 unfold mkdT
 split
 ·exact jD3
 ·split
  ·exact .none rfl fun _=>Iff.rfl
  ·exact jD3
theorem cre_say {T:Ts}{L:List ByteArray}:Say T (creT T L).2.1 (creT T L).2.2:=by
 unfold creT
 split
 ·exact jD3
 ·split
  ·exact .made rfl rfl rfl fun x=>tkF_set (jE5 _) x
  ·exact jD3
theorem rea_say {T:Ts}{dp:Nat->Nat}(h:Inv T dp){L:List ByteArray}(hL:L.all Pa.nm=true){o:Op}:Say T (reaT T L o).2.1 (reaT T L o).2.2:=by
 unfold reaT
 split
 ·exact jD3
 ·rename_i hc
  obtain ⟨n,s,h1⟩:=jM4 h hL (QB hc)
  exact .touch _ (.inl rfl) rfl rfl ⟨_,h1⟩ fun _=>Iff.rfl
theorem size_say {T:Ts}{x s:Nat}(hx:tkF T x)(y:Nat):tkF (jD2 T x s) y↔tkF T y:=by
 obtain ⟨r,hr⟩:=hx
 unfold jD2
 rw[tkF_set (Nat.le_of_lt (jAy hr))]
 exact ⟨fun h=>h.elim (fun e=>e▸⟨r,hr⟩) id,.inr⟩
theorem wri_say {T:Ts}{dp:Nat->Nat}(h:Inv T dp){L:List ByteArray}(hL:L.all Pa.nm=true){o:Op}:Say T (wriT T L o).2.1 (wriT T L o).2.2:=by
 unfold wriT
 split
 ·exact jD3
 ·rename_i hc
  obtain ⟨n,s,h1⟩:=jM4 h hL (QB hc)
  split
  ·exact jD3
  ·refine .touch _ (.inr (.inl rfl)) rfl rfl ⟨_,h1⟩ fun y=>?_
   dsimp only
   split
   ·exact Iff.rfl
   ·exact size_say ⟨_,h1⟩ y
theorem cut_say {T:Ts}{dp:Nat->Nat}(h:Inv T dp){L:List ByteArray}(hL:L.all Pa.nm=true){o:Op}:Say T (cutT T L o).2.1 (cutT T L o).2.2:=by
 unfold cutT
 split
 ·exact jD3
 ·rename_i hc
  obtain ⟨n,s,h1⟩:=jM4 h hL (QB hc)
  split
  ·exact jD3
  ·exact .touch _ (.inr (.inr rfl)) rfl rfl ⟨_,h1⟩ fun y=>size_say ⟨_,h1⟩ y
theorem rem_say {T:Ts}{dp:Nat->Nat}(h:Inv T dp){L:List ByteArray}(hL:L.all Pa.nm=true):Say T (remT T L).2.1 (remT T L).2.2:=by
 unfold remT
 split
 ·exact jD3
 ·rename_i hc
  obtain ⟨n,s,h1⟩:=jM4 h hL (QB hc)
  exact .gone _ rfl rfl ⟨_,h1⟩ fun x=>tkF_del (T:=jA6 T _ _ none) (Nat.le_of_lt (jAy h1)) x
theorem rmd_say {T:Ts}{L:List ByteArray}:Say T (rmdT T L).2.1 (rmdT T L).2.2:=by
 unfold rmdT
 split
 ·exact jD3
 ·split
  ·exact jD3
  ·split
   ·exact jD3
   ·exact .none rfl fun _=>Iff.rfl
theorem lis_say {T:Ts}{L:List ByteArray}:Say T (lisT T L).2.1 (lisT T L).2.2:=by
 unfold lisT
 split
 ·exact jD3
 ·exact .none rfl fun _=>Iff.rfl
theorem sta_say {T:Ts}{L:List ByteArray}:Say T (staT T L).2.1 (staT T L).2.2:=by
 unfold staT
 split
 ·exact jD3
 ·split
  ·exact .none rfl fun _=>Iff.rfl
  ·exact .none rfl fun _=>Iff.rfl
theorem file_at {T:Ts}{dp:Nat->Nat}(hv:Inv T dp){L:List ByteArray}{b:Sp}(g:Got T dp L b)(hk:b.kd=2):L≠[]/\∃s,T.F[b.no]?=some (some (b.par,b.nm,s)):=by
 have hL:L≠[]:=fun e=>by rw[g.rt e] at hk;cases hk
 have sp:=g.sp hL
 have hm:=sp.there (by omega)
 rw[hk] at hm
 obtain ⟨n',s,h1,h2⟩:=hv.fileF hm
 obtain rfl:=ky_inj h2
 exact ⟨hL,s,h1⟩
theorem mov_tk {T:Ts}{a b:Sp}(ha:a.kd=1\/tkF T a.no)(x:Nat):tkF (movT T a b) x↔tkF T x:=by
 unfold movT
 split
 ·exact Iff.rfl
 ·rename_i hk
  have ht:=ha.resolve_left hk
  obtain ⟨r,hr⟩:=ht
  have:=tkF_set (T:=jA6 (jA6 T a.par a.nm none) b.par b.nm (some (a.kd,a.no))) (x:=a.no) (r:=(b.par,b.nm,szF T a.no)) (Nat.le_of_lt (jAy hr)) x
  exact this.trans ⟨fun h=>h.elim (fun e=>e▸⟨r,hr⟩) id,.inr⟩
theorem ren_say {T:Ts}{dp:Nat->Nat}(h:Inv T dp){P Q:List ByteArray}(hP:P.all Pa.nm=true)(hQ:Q.all Pa.nm=true):Say T (renT T P Q).2.1 (renT T P Q).2.2:=by
 unfold renT
 by_cases h1:(fndS T P).2≠0
 ·rw[if_pos h1];exact jD3
 rw[if_neg h1]
 by_cases h2:P=Q
 ·rw[if_pos h2];exact .none rfl fun _=>Iff.rfl
 rw[if_neg h2]
 by_cases h3:tarE T P Q (fndS T P).1≠0
 ·rw[if_pos h3];exact jD3
 rw[if_neg h3]
 obtain ⟨e1,e2,e3⟩:=jF0 (QB h1)
 obtain ⟨t1,t2,t3,t4,t5⟩:=tarE_ok (QB h3)
 rw[e1] at *
 have gP:=got h hP e2
 have gQ:=got h hQ t2
 have hQ0:=jG2 t3
 have ka:(fndA T P).1.kd=1\/(fndA T P).1.kd=2:=by
  by_cases hP0:P=[]
  ·rw[hP0];exact .inl rfl
  ·rcases (gP.sp hP0).kd h with k | k | k
   ·exact absurd k e3
   ·exact .inl k
   ·exact .inr k
 have hta:(fndA T P).1.kd=1\/tkF T (fndA T P).1.no:=ka.imp id fun k=>by
  obtain ⟨_,s,hs⟩:=file_at h gP k
  exact ⟨_,hs⟩
 by_cases kz:(fndA T Q).1.kd=0
 ·rw[if_pos kz]
  exact .none rfl (mov_tk hta)
 ·rw[if_neg kz]
  have kb:(fndA T Q).1.kd=2:=by
   rcases (gQ.sp hQ0).kd h with k | k | k
   ·exact absurd k kz
   ·exact absurd k t3
   ·exact k
  have ka2:(fndA T P).1.kd=2:=ka.resolve_left fun k=>t4 ⟨kb,k⟩
  obtain ⟨hP0,s,hs⟩:=file_at h gP ka2
  obtain ⟨_,s',hs'⟩:=file_at h gQ kb
  have hne:(fndA T P).1.no≠(fndA T Q).1.no:=fun e=>by
   rw[e,hs'] at hs
   simp only[Option.some.injEq,Prod.mk.injEq] at hs
   exact h2 (gP.eq h gQ hP0 hQ0 ⟨hs.1,hs.2.1⟩)
  refine .over _ _ rfl rfl rfl ⟨_,hs⟩ ⟨_,hs'⟩ hne fun x=>?_
  have hl:(fndA T Q).1.no<=(movT T (fndA T P).1 (fndA T Q).1).F.length:=by
   obtain ⟨r,hr⟩:=(mov_tk hta (b:=(fndA T Q).1) (fndA T Q).1.no).2 ⟨_,hs'⟩
   exact Nat.le_of_lt (jAy hr)
  rw[tkF_del hl,mov_tk hta]
theorem do_say {T:Ts}{dp:Nat->Nat}(h:Inv T dp)(o:Op):Say T (doT T o).2.1 (doT T o).2.2:=by
 unfold doT
 by_cases h0:askE o≠0
 ·rw[if_pos h0];exact jD3
 rw[if_neg h0]
 obtain ⟨_,_,h3,h4,_,_⟩:=jF1 (QB h0)
 obtain ⟨hP,_⟩:=jF5 h3
 split
 ·exact mkd_say
 split
 ·exact cre_say
 split
 ·exact rea_say h hP
 split
 ·exact wri_say h hP
 split
 ·exact cut_say h hP
 split
 ·rename_i hk
  exact ren_say h hP (jF5 (h4 hk)).1
 split
 ·exact rem_say h hP
 split
 ·exact rmd_say
 split
 ·exact lis_say
 ·exact sta_say
end Go.Proofs.YtfnklhajafmooaaGreatDoor.Tr
namespace Go.Proofs.YtfnklhajafmooaaGreatDoor.Tr
open Go.RowKit Go.Lib Go.Deep Go.Proofs.Tryz
theorem jLx (cs:Array Value):∀k,(Builtin.zeroCells cs k).toList=(List.replicate k cs.toList).flatten
 | 0=>by simp[Builtin.zeroCells]
 | k+1=>by
   have ih:=jLx cs k
   simp only[Builtin.zeroCells,Array.toList_map,Array.toList_range] at ih ⊢
   rw[Nat.succ_mul,List.range_add,List.map_append,ih,List.replicate_succ',List.flatten_append]
   congr 1
   rw[List.map_map]
   simp only[List.flatten_cons,List.flatten_nil,List.append_nil]
   apply List.ext_getElem
   ·simp
   ·intro i h1 h2
    have hi:i<cs.size:=by simpa using h2
    have hm:(k*cs.size+i) % cs.size=i:=by rw[Nat.mul_comm,Nat.mul_add_mod,Nat.mod_eq_of_lt hi]
    simp only[List.getElem_map,List.getElem_range,Function.comp,hm]
    simp[hi]
theorem jKx (z:Rw):∀k,rwsC (List.replicate k z)=(List.replicate k (rwC z)).flatten
 | 0=>rfl
 | k+1=>by rw[List.replicate_succ,List.replicate_succ,List.flatten_cons,<-jKx z k];rfl
theorem rep_get {rs:List Rw}{z:Rw}{i k:Nat}(hk:i+1=rs.length+k)(h1:1<=k):(rs++List.replicate k z)[i]?=some z:=by
 rw[Qd (by omega),Qc,if_pos (by omega)]
def gapR (rs:List Rw)(i:Nat)(z r:Rw):List Rw:=(rs++List.replicate (i+1-rs.length) z).set i r
theorem zg_d (k:Nat):(Builtin.zeroCells (Value.agg #[.bool false,.int .i64 0,.string { data:=#[] },.map none]).cells k).toList=rwsC (List.replicate k (⟨false,0,e0,.map none⟩:Rw)):=by
 rw[jLx,jKx]
 rfl
theorem claimG_d (w:World)(q room:Nat)(A:Array Value)(v:Value)(rs:List Rw)(hq:w.heap[q]?=some (.cells A 138 (0,0)))(a0:A[0]?=some (.int .i64 (room:Int)))(a1:A[1]?=some v)
 (h:w.ownsRow 0 187 4 v rs.length (rwsC rs)) (hl:rs.length<=65536) (i:Nat) (hle:rs.length<=i) (hroom:i<room) (hrm:room<=70000) (p:Nat) (n:ByteArray) (y:Option Nat) :
 Calls prog 65 #[.pointer (some ⟨q,0,none⟩),.int .i64 (i:Int),.agg #[.int .i64 (p:Int),.string n,.map y]] w fun e w'=>e=.returned (.bool true)/\∃v',Clm w w' q A 1 v 187 (gapR rs i ⟨false,0,e0,.map none⟩ ⟨true,p,n,.map y⟩) v':=by
 have hb:Below w.heap.size w (w.alloc (.cells #[.int .i64 (p:Int),.string n,.map y] 144)):=(Qq _ _).alloc (Qj _) _
 have hq':=(hb.block _ (jAv hq)).trans hq
 have h':=h.below0 hb
 have c0:=(jAj (j:=0) hq').trans a0
 have c1:=(jAj (j:=1) hq').trans a1
 have fq:(w.alloc (.cells #[.int .i64 (p:Int),.string n,.map y] 144)).frozen? ⟨q,1,none⟩=false:=jAq hq'
 have hhas:=has_d _ q v rs c1 h' (by omega) i
 have hno:hasR rs i=false:=by
  unfold hasR
  cases hr:rs[i]? with
  | none=>simp[hr]
  | some r=>exact absurd (QV.1 hr).1 (by omega)
 rw[hno] at hhas
 have hri:(i:Int)<(room:Int):=by omega
 obtain ⟨ad,cap,rfl⟩:=jFx h
 obtain ⟨k,hk,hk1⟩:∃k,i+1=rs.length+k/\1<=k:=⟨i+1-rs.length,by omega,by omega⟩
 obtain ⟨i0,hi,hz0,hz1,hz2⟩:=info_parts infodR
 have HP:Hid (∀w3 v',w3.ownsRow 0 187 4 v' (rs.length+k) (rwsC rs++(Builtin.zeroCells (Value.agg #[.bool false,.int .i64 0,.string { data:=#[] },.map none]).cells k).toList)->(w.alloc (.cells #[.int .i64 (p:Int),.string n,.map y] 144)).grownBy w3 (Value.slice ad rs.length cap).ownBlock->(v'.ownBlock=(Value.slice ad rs.length cap).ownBlock\/v'.ownBlock=some (w.alloc (.cells #[.int .i64 (p:Int),.string n,.map y] 144)).heap.size) ->
  ∃g cp,v'=.slice (some ⟨g,0,none⟩) (rs.length+k) cp/\(∃c,w3.cell? ⟨q,1,none⟩=some c)/\w3.frozen? ⟨q,1,none⟩=false/\(w3.setCell ⟨q,1,none⟩ v').cell? ⟨w.heap.size,0,none⟩=some (.int .i64 (p:Int))/\(w3.setCell ⟨q,1,none⟩ v').cell? ⟨w.heap.size,1,none⟩=some (.string n)/\(w3.setCell ⟨q,1,none⟩ v').cell? ⟨w.heap.size,2,none⟩=some (.map y) /\
   Calls prog 59 #[.pointer (some ⟨q,0,none⟩),.int .i64 (i:Int),.agg #[.int .i64 (p:Int),.string n,.map y]] (w3.setCell ⟨q,1,none⟩ v') fun e w'=>e=.returned (.tuple #[])/\Clm w w' q A 1 (.slice ad rs.length cap) 187 (gapR rs i ⟨false,0,e0,.map none⟩ ⟨true,p,n,.map y⟩) v'):=fun w3 v' hown hg hvv=>by
  rw[zg_d k] at hown
  have hrs:rwsC rs++rwsC (List.replicate k (⟨false,0,e0,.map none⟩:Rw))=rwsC (rs++List.replicate k (⟨false,0,e0,.map none⟩:Rw)):=(jH1 _ _).symm
  have hln:(rs++List.replicate k (⟨false,0,e0,.map none⟩:Rw)).length=rs.length+k:=by simp
  rw[hrs,<-hln] at hown
  obtain ⟨g,cp,rfl⟩:=jC2 hown (i:=i) (r:=⟨false,0,e0,.map none⟩) (rep_get hk hk1)
  have hne:some q≠(Value.slice ad rs.length cap).ownBlock:=fun e=>by
   obtain ⟨cur,hc⟩:=jA1 h e.symm
   rw[hq] at hc
   injection hc with hc
   injection hc with _ hc _
   cases hc
  have hq3:w3.heap[q]?=some (.cells A 138 (0,0)):=(hg.block q (jAv hq') hne).trans hq'
  have hq4:=QJ w3 q 1 A _ (.slice (some ⟨g,0,none⟩) (rs++List.replicate k (⟨false,0,e0,.map none⟩:Rw)).length cp) hq3
  have hgq:g≠q:=fun e=>by
   obtain ⟨cur,hc⟩:=jA1 hown (show (Value.slice (some ⟨g,0,none⟩) (rs++List.replicate k (⟨false,0,e0,.map none⟩:Rw)).length cp).ownBlock=some g from rfl)
   rw[e,hq3] at hc
   injection hc with hc
   injection hc with _ hc _
   cases hc
  have hA:1<A.size:=by
   rcases Nat.lt_or_ge 1 A.size with h1 | h1
   ·exact h1
   ·rw[Array.getElem?_eq_none h1] at a1;cases a1
  have hown4:(w3.setCell ⟨q,1,none⟩ (.slice (some ⟨g,0,none⟩) (rs++List.replicate k (⟨false,0,e0,.map none⟩:Rw)).length cp)).ownsRow 0 187 4 (.slice (some ⟨g,0,none⟩) (rs++List.replicate k (⟨false,0,e0,.map none⟩:Rw)).length cp) (rs++List.replicate k (⟨false,0,e0,.map none⟩:Rw)).length (rwsC (rs++List.replicate k (⟨false,0,e0,.map none⟩:Rw))):=jA0 hown fun k hk=>by
   injection hk with hk
   subst hk
   exact Qy _ _ _ _ hgq
  have c14:(w3.setCell ⟨q,1,none⟩ (.slice (some ⟨g,0,none⟩) (rs++List.replicate k (⟨false,0,e0,.map none⟩:Rw)).length cp)).cell? ⟨q,1,none⟩=some (.slice (some ⟨g,0,none⟩) (rs++List.replicate k (⟨false,0,e0,.map none⟩:Rw)).length cp):=by
   rw[jAj hq4,QZ,if_pos rfl,if_pos hA]
  have hp4:(w3.setCell ⟨q,1,none⟩ (.slice (some ⟨g,0,none⟩) (rs++List.replicate k (⟨false,0,e0,.map none⟩:Rw)).length cp)).heap[w.heap.size]?=some (.cells #[.int .i64 (p:Int),.string n,.map y] 144 (0,0)):=by
   rw[Qy _ _ _ _ (fun e=>Nat.lt_irrefl _ (e▸jAv hq)),hg.block w.heap.size (by simp) (fun e=>?_)]
   ·exact jA2 w _
   ·obtain ⟨cur,hc⟩:=jA1 h e.symm
    exact Nat.lt_irrefl _ (jAv hc)
  refine ⟨g,cp,by rw[hln],⟨_,(jAj hq3).trans a1⟩,jAq hq3,(jAj (j:=0) hp4).trans rfl,(jAj (j:=1) hp4).trans rfl,(jAj (j:=2) hp4).trans rfl,(set_d _ q g cp (rs++List.replicate k (⟨false,0,e0,.map none⟩:Rw)) c14 hown4 (by rw[hln];omega) i (by rw[hln];omega) p n y).mono ?_⟩
  rintro e w' ⟨rfl,w0,hb0,rfl⟩
  refine ⟨rfl,?_⟩
  obtain ⟨r1,r2⟩:=jEz (hown4.below0 hb0) i ⟨true,p,n,.map y⟩
  have hwsz:w.heap.size<=w3.heap.size:=Qk hb.size hg.size
  have ho3:Only (q :: (Value.slice ad rs.length cap).ownBlock.toList) w w3:=jB8 (jBv (Only.refl _ _) hb) hg (fun k e=>.inl (by simp[e]))
  have ho4:Only (q :: (Value.slice ad rs.length cap).ownBlock.toList) w (w3.setCell ⟨q,1,none⟩ (.slice (some ⟨g,0,none⟩) (rs++List.replicate k (⟨false,0,e0,.map none⟩:Rw)).length cp)):=ho3.trans ((jF8 _).mono (by intro k hk;simp at hk;simp[hk]))
  have hgv:(Value.slice ad rs.length cap).ownBlock=some g\/w.heap.size<=g:=by
   rcases hvv with h1 | h1
   ·exact .inl (h1.symm.trans rfl)
   ·right
    have h2:some g=some (w.alloc (.cells #[.int .i64 (p:Int),.string n,.map y] 144)).heap.size:=h1
    injection h2 with h2
    rw[h2]
    exact hb.size
  refine ⟨?_,?_,jB8 (jBv ho4 hb0) r2 (fun k e=>?_),fun k e=>?_⟩
  ·rw[r2.block q (Qx (jAv hq4) hb0.size) (fun e=>hgq (by injection e with e;exact e.symm)),hb0.block q (jAv hq4),hq4,hln]
  ·unfold gapR
   rw[show i+1-rs.length=k by omega,List.length_set]
   exact r1
  ·injection e with e
   subst e
   rcases hgv with h1 | h1
   ·exact .inl (by simp[h1])
   ·exact .inr h1
  ·injection e with e
   subst e
   exact hgv
 generalize gapR rs i ⟨false,0,e0,.map none⟩ ⟨true,p,n,.map y⟩=rs' at *
 have hm:(i:Int)+1-(rs.length:Int)=(k:Int):=by omega
 have hm2:(0:Int)<(k:Int):=by omega
 generalize rwsC rs=xs at *
 generalize rs.length=N at *
 have h1c:∀u∈(Builtin.zeroCells (Value.agg #[.bool false,.int .i64 0,.string { data:=#[] },.map none]).cells k).toList,u.oneCell'=true:=by
  rw[zg_d k,jKx]
  intro u hu
  obtain ⟨l,hl1,hl2⟩:=List.mem_flatten.1 hu
  rw[List.eq_of_mem_replicate hl1] at hl2
  simp only[rwC,List.mem_cons,List.not_mem_nil,or_false] at hl2
  rcases hl2 with rfl | rfl | rfl | rfl <;> rfl
 have hsz:0<=(w.alloc (.cells #[.int .i64 (p:Int),.string n,.map y] 144)).heap.size:=Kj _
 clear hno hq hq' a0 a1 hle h hb
 go_enter func65,ntmps65
 go_wp2_with fail
 refine hhas.mono ?_
 rintro e w4 ⟨rfl,h4⟩
 rw[h4]
 clear h4 w4 hhas
 go_wp2_with (first
  | (go_at_call 59;refine hcall.mono ?_;rintro e w5 ⟨rfl,hP⟩;have HP2:Hid _:=hP;clear hP hcall hc hfz i0' i1' i2')
  | (at_builtin;refine jDj _ rfl _ _ 131 3 rfl 0 187 i0 (Value.agg #[.bool false,.int .i64 0,.string { data:=#[] },.map none]) 4 40 .i64 .i64 underlying131 underlying3 hi hz0 hz1 hz2 rfl (by decide) _ N xs rfl h' k (by first | rfl | (simp;done)) (by omega) h1c (by unfold maxLen;omega) (by omega) hsz ?_;intro v' w3 hown hg hvv;obtain ⟨g,cp,rfl,⟨c,hc⟩,hfz,i0',i1',i2',hcall⟩:=HP.out w3 v' hown hg hvv;clear hown hg hvv HP))
 go_ret
 exact ⟨rfl,_,HP2.out⟩
theorem zg_f (k:Nat):(Builtin.zeroCells (Value.agg #[.bool false,.int .i64 0,.string { data:=#[] },.int .i64 0]).cells k).toList=rwsC (List.replicate k (⟨false,0,e0,.int .i64 0⟩:Rw)):=by
 rw[jLx,jKx]
 rfl
theorem claimG_f (w:World)(q room:Nat)(A:Array Value)(v:Value)(rs:List Rw)(hq:w.heap[q]?=some (.cells A 138 (0,0)))(a0:A[3]?=some (.int .i64 (room:Int)))(a1:A[4]?=some v)
 (h:w.ownsRow 0 191 4 v rs.length (rwsC rs)) (hl:rs.length<=65536) (i:Nat) (hle:rs.length<=i) (hroom:i<room) (hrm:room<=70000) (p:Nat) (n:ByteArray) (y:Int) :
 Calls prog 161 #[.pointer (some ⟨q,3,none⟩),.int .i64 (i:Int),.agg #[.int .i64 (p:Int),.string n,.int .i64 y]] w fun e w'=>e=.returned (.bool true)/\∃v',Clm w w' q A 4 v 191 (gapR rs i ⟨false,0,e0,.int .i64 0⟩ ⟨true,p,n,.int .i64 y⟩) v':=by
 have hb:Below w.heap.size w (w.alloc (.cells #[.int .i64 (p:Int),.string n,.int .i64 y] 147)):=(Qq _ _).alloc (Qj _) _
 have hq':=(hb.block _ (jAv hq)).trans hq
 have h':=h.below0 hb
 have c0:=(jAj (j:=3) hq').trans a0
 have c1:=(jAj (j:=4) hq').trans a1
 have fq:(w.alloc (.cells #[.int .i64 (p:Int),.string n,.int .i64 y] 147)).frozen? ⟨q,4,none⟩=false:=jAq hq'
 have hhas:=has_f _ q v rs c1 h' (by omega) i
 have hno:hasR rs i=false:=by
  unfold hasR
  cases hr:rs[i]? with
  | none=>simp[hr]
  | some r=>exact absurd (QV.1 hr).1 (by omega)
 rw[hno] at hhas
 have hri:(i:Int)<(room:Int):=by omega
 obtain ⟨ad,cap,rfl⟩:=jFx h
 obtain ⟨k,hk,hk1⟩:∃k,i+1=rs.length+k/\1<=k:=⟨i+1-rs.length,by omega,by omega⟩
 obtain ⟨i0,hi,hz0,hz1,hz2⟩:=info_parts infofR
 have HP:Hid (∀w3 v',w3.ownsRow 0 191 4 v' (rs.length+k) (rwsC rs++(Builtin.zeroCells (Value.agg #[.bool false,.int .i64 0,.string { data:=#[] },.int .i64 0]).cells k).toList)->(w.alloc (.cells #[.int .i64 (p:Int),.string n,.int .i64 y] 147)).grownBy w3 (Value.slice ad rs.length cap).ownBlock->(v'.ownBlock=(Value.slice ad rs.length cap).ownBlock\/v'.ownBlock=some (w.alloc (.cells #[.int .i64 (p:Int),.string n,.int .i64 y] 147)).heap.size) ->
  ∃g cp,v'=.slice (some ⟨g,0,none⟩) (rs.length+k) cp/\(∃c,w3.cell? ⟨q,4,none⟩=some c)/\w3.frozen? ⟨q,4,none⟩=false/\(w3.setCell ⟨q,4,none⟩ v').cell? ⟨w.heap.size,0,none⟩=some (.int .i64 (p:Int))/\(w3.setCell ⟨q,4,none⟩ v').cell? ⟨w.heap.size,1,none⟩=some (.string n)/\(w3.setCell ⟨q,4,none⟩ v').cell? ⟨w.heap.size,2,none⟩=some (.int .i64 y) /\
   Calls prog 162 #[.pointer (some ⟨q,3,none⟩),.int .i64 (i:Int),.agg #[.int .i64 (p:Int),.string n,.int .i64 y]] (w3.setCell ⟨q,4,none⟩ v') fun e w'=>e=.returned (.tuple #[])/\Clm w w' q A 4 (.slice ad rs.length cap) 191 (gapR rs i ⟨false,0,e0,.int .i64 0⟩ ⟨true,p,n,.int .i64 y⟩) v'):=fun w3 v' hown hg hvv=>by
  rw[zg_f k] at hown
  have hrs:rwsC rs++rwsC (List.replicate k (⟨false,0,e0,.int .i64 0⟩:Rw))=rwsC (rs++List.replicate k (⟨false,0,e0,.int .i64 0⟩:Rw)):=(jH1 _ _).symm
  have hln:(rs++List.replicate k (⟨false,0,e0,.int .i64 0⟩:Rw)).length=rs.length+k:=by simp
  rw[hrs,<-hln] at hown
  obtain ⟨g,cp,rfl⟩:=jC2 hown (i:=i) (r:=⟨false,0,e0,.int .i64 0⟩) (rep_get hk hk1)
  have hne:some q≠(Value.slice ad rs.length cap).ownBlock:=fun e=>by
   obtain ⟨cur,hc⟩:=jA1 h e.symm
   rw[hq] at hc
   injection hc with hc
   injection hc with _ hc _
   cases hc
  have hq3:w3.heap[q]?=some (.cells A 138 (0,0)):=(hg.block q (jAv hq') hne).trans hq'
  have hq4:=QJ w3 q 4 A _ (.slice (some ⟨g,0,none⟩) (rs++List.replicate k (⟨false,0,e0,.int .i64 0⟩:Rw)).length cp) hq3
  have hgq:g≠q:=fun e=>by
   obtain ⟨cur,hc⟩:=jA1 hown (show (Value.slice (some ⟨g,0,none⟩) (rs++List.replicate k (⟨false,0,e0,.int .i64 0⟩:Rw)).length cp).ownBlock=some g from rfl)
   rw[e,hq3] at hc
   injection hc with hc
   injection hc with _ hc _
   cases hc
  have hA:4<A.size:=by
   rcases Nat.lt_or_ge 4 A.size with h1 | h1
   ·exact h1
   ·rw[Array.getElem?_eq_none h1] at a1;cases a1
  have hown4:(w3.setCell ⟨q,4,none⟩ (.slice (some ⟨g,0,none⟩) (rs++List.replicate k (⟨false,0,e0,.int .i64 0⟩:Rw)).length cp)).ownsRow 0 191 4 (.slice (some ⟨g,0,none⟩) (rs++List.replicate k (⟨false,0,e0,.int .i64 0⟩:Rw)).length cp) (rs++List.replicate k (⟨false,0,e0,.int .i64 0⟩:Rw)).length (rwsC (rs++List.replicate k (⟨false,0,e0,.int .i64 0⟩:Rw))):=jA0 hown fun k hk=>by
   injection hk with hk
   subst hk
   exact Qy _ _ _ _ hgq
  have c14:(w3.setCell ⟨q,4,none⟩ (.slice (some ⟨g,0,none⟩) (rs++List.replicate k (⟨false,0,e0,.int .i64 0⟩:Rw)).length cp)).cell? ⟨q,4,none⟩=some (.slice (some ⟨g,0,none⟩) (rs++List.replicate k (⟨false,0,e0,.int .i64 0⟩:Rw)).length cp):=by
   rw[jAj hq4,QZ,if_pos rfl,if_pos hA]
  have hp4:(w3.setCell ⟨q,4,none⟩ (.slice (some ⟨g,0,none⟩) (rs++List.replicate k (⟨false,0,e0,.int .i64 0⟩:Rw)).length cp)).heap[w.heap.size]?=some (.cells #[.int .i64 (p:Int),.string n,.int .i64 y] 147 (0,0)):=by
   rw[Qy _ _ _ _ (fun e=>Nat.lt_irrefl _ (e▸jAv hq)),hg.block w.heap.size (by simp) (fun e=>?_)]
   ·exact jA2 w _
   ·obtain ⟨cur,hc⟩:=jA1 h e.symm
    exact Nat.lt_irrefl _ (jAv hc)
  refine ⟨g,cp,by rw[hln],⟨_,(jAj hq3).trans a1⟩,jAq hq3,(jAj (j:=0) hp4).trans rfl,(jAj (j:=1) hp4).trans rfl,(jAj (j:=2) hp4).trans rfl,(set_f _ q g cp (rs++List.replicate k (⟨false,0,e0,.int .i64 0⟩:Rw)) c14 hown4 (by rw[hln];omega) i (by rw[hln];omega) p n y).mono ?_⟩
  rintro e w' ⟨rfl,w0,hb0,rfl⟩
  refine ⟨rfl,?_⟩
  obtain ⟨r1,r2⟩:=jEz (hown4.below0 hb0) i ⟨true,p,n,.int .i64 y⟩
  have hwsz:w.heap.size<=w3.heap.size:=Qk hb.size hg.size
  have ho3:Only (q :: (Value.slice ad rs.length cap).ownBlock.toList) w w3:=jB8 (jBv (Only.refl _ _) hb) hg (fun k e=>.inl (by simp[e]))
  have ho4:Only (q :: (Value.slice ad rs.length cap).ownBlock.toList) w (w3.setCell ⟨q,4,none⟩ (.slice (some ⟨g,0,none⟩) (rs++List.replicate k (⟨false,0,e0,.int .i64 0⟩:Rw)).length cp)):=ho3.trans ((jF8 _).mono (by intro k hk;simp at hk;simp[hk]))
  have hgv:(Value.slice ad rs.length cap).ownBlock=some g\/w.heap.size<=g:=by
   rcases hvv with h1 | h1
   ·exact .inl (h1.symm.trans rfl)
   ·right
    have h2:some g=some (w.alloc (.cells #[.int .i64 (p:Int),.string n,.int .i64 y] 147)).heap.size:=h1
    injection h2 with h2
    rw[h2]
    exact hb.size
  refine ⟨?_,?_,jB8 (jBv ho4 hb0) r2 (fun k e=>?_),fun k e=>?_⟩
  ·rw[r2.block q (Qx (jAv hq4) hb0.size) (fun e=>hgq (by injection e with e;exact e.symm)),hb0.block q (jAv hq4),hq4,hln]
  ·unfold gapR
   rw[show i+1-rs.length=k by omega,List.length_set]
   exact r1
  ·injection e with e
   subst e
   rcases hgv with h1 | h1
   ·exact .inl (by simp[h1])
   ·exact .inr h1
  ·injection e with e
   subst e
   exact hgv
 generalize gapR rs i ⟨false,0,e0,.int .i64 0⟩ ⟨true,p,n,.int .i64 y⟩=rs' at *
 have hm:(i:Int)+1-(rs.length:Int)=(k:Int):=by omega
 have hm2:(0:Int)<(k:Int):=by omega
 generalize rwsC rs=xs at *
 generalize rs.length=N at *
 have h1c:∀u∈(Builtin.zeroCells (Value.agg #[.bool false,.int .i64 0,.string { data:=#[] },.int .i64 0]).cells k).toList,u.oneCell'=true:=by
  rw[zg_f k,jKx]
  intro u hu
  obtain ⟨l,hl1,hl2⟩:=List.mem_flatten.1 hu
  rw[List.eq_of_mem_replicate hl1] at hl2
  simp only[rwC,List.mem_cons,List.not_mem_nil,or_false] at hl2
  rcases hl2 with rfl | rfl | rfl | rfl <;> rfl
 have hsz:0<=(w.alloc (.cells #[.int .i64 (p:Int),.string n,.int .i64 y] 147)).heap.size:=Kj _
 clear hno hq hq' a0 a1 hle h hb
 go_enter func161,ntmps161
 go_wp2_with fail
 refine hhas.mono ?_
 rintro e w4 ⟨rfl,h4⟩
 rw[h4]
 clear h4 w4 hhas
 go_wp2_with (first
  | (go_at_call 162;refine hcall.mono ?_;rintro e w5 ⟨rfl,hP⟩;have HP2:Hid _:=hP;clear hP hcall hc hfz i0' i1' i2')
  | (at_builtin;refine jDj _ rfl _ _ 134 3 rfl 0 191 i0 (Value.agg #[.bool false,.int .i64 0,.string { data:=#[] },.int .i64 0]) 4 40 .i64 .i64 underlying134 underlying3 hi hz0 hz1 hz2 rfl (by decide) _ N xs rfl h' k (by first | rfl | (simp;done)) (by omega) h1c (by unfold maxLen;omega) (by omega) hsz ?_;intro v' w3 hown hg hvv;obtain ⟨g,cp,rfl,⟨c,hc⟩,hfz,i0',i1',i2',hcall⟩:=HP.out w3 v' hown hg hvv;clear hown hg hvv HP))
 go_ret
 exact ⟨rfl,_,HP2.out⟩
end Go.Proofs.YtfnklhajafmooaaGreatDoor.Tr
namespace Go.Proofs.YtfnklhajafmooaaGreatDoor.Tr
open Go.RowKit Go.Lib Go.Proofs.Tryz
theorem jE9 {T:Ts}{x:Nd}(h:x∈told T):(x.kind=1/\1<=x.number/\T.D[x.number]?=some (some (x.parent,x.name))/\x.size=0)\/(x.kind=2/\T.F[x.number]?=some (some (x.parent,x.name,x.size))):=by
 rcases List.mem_append.1 h with h1 | h1
 ·left
  unfold toldD at h1
  obtain ⟨r,hr,h2⟩:=List.mem_filterMap.1 h1
  obtain ⟨i,hi⟩:=List.mem_iff_getElem?.1 hr
  rw[List.getElem?_drop,List.getElem?_zipIdx] at hi
  cases hd:T.D[1+i]? with
  | none=>rw[hd] at hi;cases hi
  | some o =>
    rw[hd] at hi
    simp only[Option.map_some,Option.some.injEq] at hi
    subst hi
    cases o with
    | none=>cases h2
    | some d =>
      simp only[Option.map_some,Option.some.injEq] at h2
      subst h2
      refine ⟨rfl,by simp,?_,rfl⟩
      simpa using hd
 ·right
  unfold toldF at h1
  obtain ⟨r,hr,h2⟩:=List.mem_filterMap.1 h1
  have hi:=List.mem_zipIdx_iff_getElem?.1 hr
  cases ho:r.1 with
  | none=>rw[ho] at h2;cases h2
  | some d =>
    rw[ho] at h2 hi
    injection h2 with h2
    rw[<-h2]
    exact ⟨rfl,hi⟩
theorem told_lies {T:Ts}{dp:Nat->Nat}(hv:Inv T dp){x:Nd}(h:x∈told T):T.M x.parent (ky x.name)=some (x.kind,x.number):=by
 refine (hv.hM _ _ _).2 ?_
 rcases jE9 h with ⟨h1,h2,h3,_⟩ | ⟨h1,h2⟩
 ·exact .inl ⟨h1,by show x.number≠0;omega,_,h3,rfl⟩
 ·exact .inr ⟨h1,_,_,h2,rfl⟩
theorem told_name {T:Ts}{dp:Nat->Nat}(hv:Inv T dp){x:Nd}(h:x∈told T):Pa.nm x.name=true:=hv.hN _ _ _ (told_lies hv h)
theorem jOq {T:Ts}{dp:Nat->Nat}(hv:Inv T dp){x:Nd}(h:x∈told T):x.size<=T.most/\(x.kind=1->x.size=0):=by
 rcases jE9 h with ⟨h1,h2,h3,h4⟩ | ⟨h1,h2⟩
 ·exact ⟨by rw[h4];exact Kj _,fun _=>h4⟩
 ·exact ⟨hv.hS _ _ _ _ h2,fun h=>by rw[h1] at h;cases h⟩
theorem told_room {T:Ts}{dp:Nat->Nat}(hv:Inv T dp){x:Nd}(h:x∈told T):(x.kind=1/\1<=x.number/\x.number+1<=T.dr)\/(x.kind=2/\x.number<T.fr):=by
 rcases jE9 h with ⟨h1,h2,h3,h4⟩ | ⟨h1,h2⟩
 ·have:=jAy h3
  have:=hv.dl
  exact .inl ⟨h1,h2,by omega⟩
 ·have:=jAy h2
  have:=hv.fl
  exact .inr ⟨h1,by omega⟩
def ndLt (a b:Nd):Prop:=a.kind<b.kind\/a.kind=b.kind/\a.number<b.number
theorem jOv {α:Type}(f:α × Nat->Option Nd)(k:Nat)(hf:∀r x,f r=some x->x.kind=k/\x.number=r.2):∀(l:List α) (m:Nat),((l.zipIdx m).filterMap f).Pairwise ndLt/\∀x,x∈(l.zipIdx m).filterMap f->x.kind=k/\m<=x.number
 | [],_=>⟨List.Pairwise.nil,fun x h=>(by cases h)⟩
 | a :: t,m=>by
   obtain ⟨h1,h2⟩:=jOv f k hf t (m+1)
   rw[List.zipIdx_cons,List.filterMap_cons]
   cases hq:f (a,m) with
   | none=>exact ⟨h1,fun x hx=>⟨(h2 x hx).1,by have:=(h2 x hx).2;omega⟩⟩
   | some y =>
     obtain ⟨e1,e2⟩:=hf _ _ hq
     refine ⟨List.pairwise_cons.2 ⟨fun x hx=>.inr ⟨by rw[e1,(h2 x hx).1],by have:=(h2 x hx).2;simp only at e2;omega⟩,h1⟩,fun x hx=>?_⟩
     rcases List.mem_cons.1 hx with rfl | hx
     ·exact ⟨e1,by simp only at e2;omega⟩
     ·exact ⟨(h2 x hx).1,by have:=(h2 x hx).2;omega⟩
theorem jGz (T:Ts):(told T).Pairwise ndLt:=by
 have hD:=jOv (fun (r:Option (Nat × ByteArray) × Nat)=>r.1.map fun d=>(⟨1,r.2,d.1,d.2,0⟩:Nd)) 1 (fun r x h=>by
  cases hr:r.1 with
  | none=>simp only[hr] at h;cases h
  | some d=>simp only[hr,Option.map_some,Option.some.injEq] at h;rw[<-h];exact ⟨rfl,rfl⟩)
 have hF:=jOv (fun (r:Option (Nat × ByteArray × Nat) × Nat)=>r.1.map fun f=>(⟨2,r.2,f.1,f.2.1,f.2.2⟩:Nd)) 2 (fun r x h=>by
  cases hr:r.1 with
  | none=>simp only[hr] at h;cases h
  | some d=>simp only[hr,Option.map_some,Option.some.injEq] at h;rw[<-h];exact ⟨rfl,rfl⟩)
 have e:T.D.zipIdx.drop 1=(T.D.drop 1).zipIdx 1:=by
  cases T.D with
  | nil=>rfl
  | cons a t=>rfl
 unfold told
 rw[List.pairwise_append]
 unfold toldD
 rw[e]
 refine ⟨(hD _ _).1,(hF T.F 0).1,fun a ha b hb=>.inl ?_⟩
 rw[((hD _ _).2 a ha).1,((hF T.F 0).2 b hb).1]
 decide
end Go.Proofs.YtfnklhajafmooaaGreatDoor.Tr
namespace Go.Proofs.YtfnklhajafmooaaGreatDoor.Tr
open Go.RowKit Go.Maps Go.Sort Go.Shelf Go.Proofs.Tryz
def jL0:Go.Shelf.Ren:=⟨fun | 7=>135 | 10=>168 | n=>n,fun | 23=>142 | 26=>9 | 3=>153 | 28=>227 | 0=>0 | 27=>226 | 33=>194 | 4=>4 | n=>n,fun | n=>n⟩
theorem keysLays:Go.Proofs.SlLaysZ.n7 prog jL0:={
 mixed:=by kernel_rfl
 f7:=⟨Tryz.f135.name,by decide,func135.trans (congrArg some (by kernel_rfl))⟩
 f10:=⟨Tryz.f168.name,by decide,func168.trans (congrArg some (by kernel_rfl))⟩
 t0:=underlying0
 a0:=isAgg0
 z0:=sizeOf0
 v0:=zeroValue0
 t4:=underlying4
 a4:=isAgg4
 z4:=sizeOf4
 v4:=zeroValue4
 t23:=underlying142
 a23:=isAgg142
 z23:=sizeOf142
 v23:=zeroValue142
 t26:=underlying9
 a26:=isAgg9
 z26:=sizeOf9
 v26:=zeroValue9
 t27:=underlying226
 a27:=isAgg226
 z27:=sizeOf226
 v27:=zeroValue226
 t28:=underlying227
 a28:=isAgg227
 z28:=sizeOf227
 v28:=zeroValue227
 t33:=underlying194
 a33:=isAgg194
 z33:=sizeOf194
 v33:=zeroValue194 }
def jI9:Go.Shelf.Ren:=⟨fun | 6=>134 | 8=>166 | 9=>167 | 11=>200 | 13=>54 | 12=>201 | 23=>79 | 24=>80 | 14=>215 | 15=>216 | 16=>217 | 17=>218 | 18=>219 | 19=>220 | 20=>221 | 21=>222 | 22=>223 | 25=>230 | 26=>210 | 27=>211 | 28=>231 | 29=>232 | 30=>233 | 31=>236 | n=>n,fun | 26=>9 | 28=>227 | 24=>64 | 0=>0 | 3=>3 | 37=>130 | 48=>181 | 50=>183 | 4=>4 | 40=>266 | 39=>265 | 45=>213 | 5=>5 | 9=>9 | 51=>280 | 55=>284 | 57=>291 | 58=>292 | 33=>194 | n=>n,fun | n=>n⟩
theorem sortedLays:Go.Proofs.SlLaysZ.n6 prog jI9:={
 mixed:=by kernel_rfl
 f6:=⟨Tryz.f134.name,by decide,func134.trans (congrArg some (by kernel_rfl))⟩
 f8:=⟨Tryz.f166.name,by decide,func166.trans (congrArg some (by kernel_rfl))⟩
 f11:=⟨Tryz.f200.name,by decide,func200.trans (congrArg some (by kernel_rfl))⟩
 t0:=underlying0
 a0:=isAgg0
 z0:=sizeOf0
 v0:=zeroValue0
 t24:=underlying64
 a24:=isAgg64
 z24:=sizeOf64
 v24:=zeroValue64
 t26:=underlying9
 a26:=isAgg9
 z26:=sizeOf9
 v26:=zeroValue9
 t28:=underlying227
 a28:=isAgg227
 z28:=sizeOf227
 v28:=zeroValue227
 i26:=by kernel_rfl }
def sortLays_ren:Go.Shelf.Ren:=⟨fun | 6=>167 | 8=>54 | 9=>201 | 19=>79 | 20=>80 | 21=>215 | 22=>216 | 23=>217 | 24=>218 | 25=>219 | 26=>220 | 27=>221 | 28=>222 | 29=>223 | 36=>230 | 31=>210 | 32=>211 | 37=>231 | 38=>232 | 39=>233 | 41=>236 | n=>n,fun | 27=>64 | 29=>9 | 3=>3 | 32=>130 | 26=>64 | 0=>0 | 44=>181 | 46=>183 | 4=>4 | 36=>266 | 35=>265 | 41=>213 | 5=>5 | 9=>9 | 53=>280 | 57=>284 | 63=>291 | 64=>292 | n=>n,fun | n=>n⟩
theorem sortLays:Go.Proofs.SlLaysM.n6 prog sortLays_ren:={
 mixed:=by kernel_rfl
 f6:=⟨Tryz.f167.name,by decide,func167.trans (congrArg some (by kernel_rfl))⟩
 f8:=func54.trans (congrArg some (by kernel_rfl))
 f9:=⟨Tryz.f201.name,by decide,func201.trans (congrArg some (by kernel_rfl))⟩
 f19:=func79.trans (congrArg some (by kernel_rfl))
 f20:=func80.trans (congrArg some (by kernel_rfl))
 f21:=⟨Tryz.f215.name,by decide,func215.trans (congrArg some (by kernel_rfl))⟩
 f22:=⟨Tryz.f216.name,by decide,func216.trans (congrArg some (by kernel_rfl))⟩
 f23:=⟨Tryz.f217.name,by decide,func217.trans (congrArg some (by kernel_rfl))⟩
 f24:=⟨Tryz.f218.name,by decide,func218.trans (congrArg some (by kernel_rfl))⟩
 f25:=⟨Tryz.f219.name,by decide,func219.trans (congrArg some (by kernel_rfl))⟩
 f26:=⟨Tryz.f220.name,by decide,func220.trans (congrArg some (by kernel_rfl))⟩
 f27:=⟨Tryz.f221.name,by decide,func221.trans (congrArg some (by kernel_rfl))⟩
 f28:=⟨Tryz.f222.name,by decide,func222.trans (congrArg some (by kernel_rfl))⟩
 f29:=⟨Tryz.f223.name,by decide,func223.trans (congrArg some (by kernel_rfl))⟩
 f31:=func210.trans (congrArg some (by kernel_rfl))
 f32:=func211.trans (congrArg some (by kernel_rfl))
 f36:=⟨Tryz.f230.name,by decide,func230.trans (congrArg some (by kernel_rfl))⟩
 f37:=⟨Tryz.f231.name,by decide,func231.trans (congrArg some (by kernel_rfl))⟩
 f38:=⟨Tryz.f232.name,by decide,func232.trans (congrArg some (by kernel_rfl))⟩
 f39:=⟨Tryz.f233.name,by decide,func233.trans (congrArg some (by kernel_rfl))⟩
 f41:=⟨Tryz.f236.name,by decide,func236.trans (congrArg some (by kernel_rfl))⟩
 t0:=underlying0
 a0:=isAgg0
 z0:=sizeOf0
 v0:=zeroValue0
 t3:=underlying3
 a3:=isAgg3
 z3:=sizeOf3
 v3:=zeroValue3
 t4:=underlying4
 a4:=isAgg4
 z4:=sizeOf4
 v4:=zeroValue4
 t5:=underlying5
 a5:=isAgg5
 z5:=sizeOf5
 v5:=zeroValue5
 t9:=underlying9
 a9:=isAgg9
 z9:=sizeOf9
 v9:=zeroValue9
 t26:=underlying64
 a26:=isAgg64
 z26:=sizeOf64
 v26:=zeroValue64
 t27:=underlying64
 a27:=isAgg64
 z27:=sizeOf64
 v27:=zeroValue64
 t29:=underlying9
 a29:=isAgg9
 z29:=sizeOf9
 v29:=zeroValue9
 t32:=underlying130
 a32:=isAgg130
 z32:=sizeOf130
 v32:=zeroValue130
 t35:=underlying265
 a35:=isAgg265
 z35:=sizeOf265
 v35:=zeroValue265
 t36:=underlying266
 a36:=isAgg266
 z36:=sizeOf266
 v36:=zeroValue266
 t41:=underlying213
 a41:=isAgg213
 z41:=sizeOf213
 v41:=zeroValue213
 t44:=underlying181
 a44:=isAgg181
 z44:=sizeOf181
 v44:=zeroValue181
 t46:=underlying183
 a46:=isAgg183
 z46:=sizeOf183
 v46:=zeroValue183
 t53:=underlying280
 a53:=isAgg280
 z53:=sizeOf280
 v53:=zeroValue280
 t57:=underlying284
 a57:=isAgg284
 z57:=sizeOf284
 v57:=zeroValue284
 t63:=underlying291
 a63:=isAgg291
 z63:=sizeOf291
 v63:=zeroValue291
 t64:=underlying292
 a64:=isAgg292
 z64:=sizeOf292
 v64:=zeroValue292 }
theorem sorts_in (m:Nat):AnyZ.SortsIn prog jI9 Fence.wide m :=
 ⟨fun blk off cap ss W hH hblk hsz=>callsIn_wide.2 (AnyM.slices_Sort_string sortLays blk off cap ss W hH hblk hsz),
  fun p cap W=>callsIn_wide.2 (AnyM.slices_Sort_string_none sortLays p cap W)⟩
theorem keys_any (mb:Option Nat)(W:World):CallsIn Fence.wide 5 prog 135 #[.map mb] W fun e w'=>e=.returned (.func (.func 168) #[] #[.pointer (some ⟨W.heap.size,0,none⟩)])/\w'=W.alloc (.cells #[.map mb] 142) :=
 AnyZ.keys_in keysLays Fence.wide 5 trivial rfl mb W
theorem sorted_any {H:Type}(b nn:Nat)(D0:DataW H)(R:Value->Option (DataW H × List MemPlace))(w:World)(hown:w.ownsMap prog 9 R b nn D0)(hmax:Maps.size D0<=maxLen)(hbytes:Maps.size D0*16<=140737488355328) :
 CallsIn Fence.wide 5 prog 134 #[.func (.func 168) #[] #[.pointer (some ⟨w.heap.size,0,none⟩)]] (w.alloc (.cells #[.map (some b)] 142)) fun e w'=>∃(v:Value) (ss:List (List UInt8)),e=.returned v/\ss.Perm (strKeys D0) /\
  w'.ownsRow (w.alloc (.cells #[.map (some b)] 142)).heap.size 9 1 v ss.length ((ss.mergeSort (fun x y=>decide (x<=y))).map encStr)/\(v=.slice none 0 0↔ss=[])/\Below (w.alloc (.cells #[.map (some b)] 142)).heap.size (w.alloc (.cells #[.map (some b)] 142)) w':=by
 have hbl:=hown.lt
 have hseq:SeqGives Fence.wide 2 prog 168 #[.pointer (some ⟨w.heap.size,0,none⟩)] encStr (fun ss=>ss.Perm (strKeys D0)) (Maps.size D0) (w.alloc (.cells #[.map (some b)] 142)) :=
  AnyZ.keys_gives (ρ:=jL0) { keysLays with } Fence.wide _ trivial rfl (by omega) w.heap.size b nn D0 _ (by simp) (by simp) (by
   obtain ⟨es,clock,hb,Ft,hs,hD⟩:=hown
   exact ⟨es,clock,(Below.heap_alloc _ _ b hbl).trans hb,Ft,hs,hD⟩)
 exact AnyZ.sorted_in sortedLays Fence.wide 5 trivial trivial trivial trivial rfl (by omega) (sorts_in _) (enters_of func167 (by kernel_rfl) rfl) 168 #[.pointer (some ⟨w.heap.size,0,none⟩)] trivial (enters_of func168 (by kernel_rfl) rfl) _ _ hmax hbytes _ hseq
